/-
  The walk of CacheCloses.
-/
import Derived.Test.YtknbjdldmednlaaLaw12v
import Derived.Test.YtknbjdldmednlaaRdLo
import Derived.Deep.CutRange
namespace Go.Proofs.Ytknbjdldmednlaa
open Go.RowKit


theorem Try.stepInfo : (Try.prog.info? 53).map (fun i => (i.zero, i.size, i.bytes)) = some (some (.agg #[.int .i64 0, .int .i64 0, .int .i64 0, .slice none 0 0, .slice none 0 0]), 5, 72) := by kernel_rfl
theorem OwnL.sameLow {w w' : World} {B : Nat} {e : TypeId} {v : Value} {l : List Cg} (h : OwnL (RdLow B) w B e 5 v l) (hl : ∀ g, g < B → w'.heap[g]? = w.heap[g]?) (hv : ∀ g, v.ownBlock = some g → w'.heap[g]? = w.heap[g]?) : OwnL (RdLow B) w' B e 5 v l := by
  obtain ⟨rows, h1, h2, h3, h4⟩ := h
  refine ⟨rows, ⟨h1.1, h1.2.1, ?_⟩, h2, fun k hk hk' => (RdLow B).stable (h3 k hk hk') fun q hq => hl q ((h3 k hk hk').2 q hq), h4⟩
  rcases h1.2.2 with h | ⟨q, cap, cur, hv', hb, hq, h⟩
  · exact Or.inl h
  · exact Or.inr ⟨q, cap, cur, hv', hb, (hv q (by rw [hv']; rfl)).trans hq, h⟩
theorem OwnL.rdAt {α : Type} {D : Rds α} {w : World} {B : Nat} {e : TypeId} {N : Nat} {A : Option Addr} {n c : Nat} {l : List α} (h : OwnL D w B e N (.slice A n c) l) : RdL D w A N l := by
  obtain ⟨A', c', hv, _, _, hr⟩ := h.read
  injection hv with a b c
  subst a
  exact hr
/-- The steps that were made, as a list of the call's own, none of it the cache's. -/
def AL (B : Nat) (w : World) (ro : Nat → Option Rl) (v : Value) (L : List Cg) : Prop := OwnL (RdLow B) w B 53 5 v L ∧ ∀ g, v.ownBlock = some g → ro g = none
section
variable {w0 w w' : World} {ro ro' : Nat → Option Rl} {v : Value} {L : List Cg}
theorem AL.ext {B : Nat} (h : AL B w ro v L) (hb : Below w.heap.size w w') : AL B w' ro v L := ⟨h.1.ext hb, h.2⟩
theorem AL.tr (h : AL w0.heap.size w ro v L) (hs : Std w0 w ro) (t : Tr ro ro' w w') : AL w0.heap.size w' ro' v L := by
  have hb := t.below hs.bel.size hs.low
  exact ⟨h.1.sameLow (fun g hg => hb.block g hg) (fun g hg => (t.keep g (h.1.lt g hg).2 (h.2 g hg)).2), fun g hg => (t.keep g (h.1.lt g hg).2 (h.2 g hg)).1⟩
theorem AL.only {B : Nat} (h : AL B w ro v L) {q : Nat} (ho : Only w w' q) (hq : B ≤ q) (hne : ∀ g, v.ownBlock = some g → g < q) : AL B w' ro v L :=
  ⟨h.1.sameLow (fun g hg => ho.block g (by omega)) (fun g hg => ho.block g (by have := hne g hg; omega)), h.2⟩
theorem Cch.grown {c b g : Nat} {x : DC} {T : Nat} (h : Cch w ro c b g x T) {r : Option Nat} (hg : w.grownBy w' r) (hn : ∀ q, r = some q → ro q = none) : Cch w' ro c b g x T := by
  obtain ⟨A, S, W, h1, h2, h3, h4, h5⟩ := h
  exact ⟨A, S, W, h1, h2, h3, h4.same hg.size (fun q k hk => hg.block q (h4.lt q k hk) (fun e => by have := hn q e.symm; rw [hk] at this; cases this)), h5⟩
end
/-- What a made step is in the history. -/
structure MO (L H : List Cg) : Prop where
  len : H.length = L.length
  at_ : ∀ k (h : k < L.length) (h' : k < H.length), H[k].id = (k : Int) + 1 ∧ H[k].block = L[k].block ∧ H[k].p = L[k].p ∧ H[k].needs = L[k].needs
  rng : ∀ k (h : k < L.length), 0 ≤ L[k].block ∧ L[k].block < 16
  need : ∀ k (h : k < L.length), ∀ n ∈ L[k].needs, 1 ≤ n ∧ n ≤ (L.length : Int)
  small : ∀ k (h : k < L.length), L[k].p.data.length ≤ 300
theorem MO.nil_ : MO [] [] := ⟨rfl, fun k h => absurd h (by simp), fun k h => absurd h (by simp), fun k h => absurd h (by simp), fun k h => absurd h (by simp)⟩
theorem MO.snoc {L H : List Cg} (h : MO L H) {x : DC} (hx : H.length = x.last) (s : Cg) (hb : 0 ≤ s.block ∧ s.block < 16) (hn : ∀ n ∈ s.needs, 1 ≤ n ∧ n ≤ (x.last : Int)) (hs : s.p.data.length ≤ 300) : MO (L ++ [s]) (H ++ [x.made (stOf s)]) := by
  have hl := h.len
  have key : ∀ k (_ : k < (L ++ [s]).length), k < L.length ∨ k = L.length := fun k hk => by rw [List.length_append, List.length_singleton] at hk; omega
  have gl : ∀ k (hk : k < (L ++ [s]).length) (h1 : k < L.length), (L ++ [s])[k] = L[k] := fun k hk h1 => List.getElem_append_left h1
  have gr : ∀ (hk : L.length < (L ++ [s]).length), (L ++ [s])[L.length] = s := fun hk => by simp
  refine ⟨by rw [List.length_append, List.length_append, hl]; rfl, fun k hk hk' => ?_, fun k hk => ?_, fun k hk => ?_, fun k hk => ?_⟩
  · rcases key k hk with h1 | h1
    · rw [gl k hk h1, List.getElem_append_left (show k < H.length by omega)]
      exact h.at_ k h1 (by omega)
    · subst h1
      have e : (H ++ [x.made (stOf s)])[L.length] = x.made (stOf s) := by
        rw [List.getElem_append_right (by omega)]
        simp [hl]
      rw [gr hk, e]
      exact ⟨by show (x.last : Int) + 1 = _; rw [← hx, hl], rfl, rfl, rfl⟩
  · rcases key k hk with h1 | h1
    · rw [gl k hk h1]; exact h.rng k h1
    · subst h1; rw [gr hk]; exact hb
  · rcases key k hk with h1 | h1
    · rw [gl k hk h1]
      intro n hn'
      have := h.need k h1 n hn'
      rw [List.length_append, List.length_singleton]
      omega
    · subst h1
      rw [gr hk]
      intro n hn'
      have := hn n hn'
      rw [List.length_append, List.length_singleton]
      omega
  · rcases key k hk with h1 | h1
    · rw [gl k hk h1]; exact h.small k h1
    · subst h1; rw [gr hk]; exact hs
theorem wl_step {D : List Cg} {W : List (List UInt8)} (hW : wl D = W) {m : Nat} (hm : m < W.length) {R : List UInt8} (hR : W[m] = R) (c : Cg) (hb : c.block = (m : Int)) : wl (D ++ [c]) = W.set m (layP R c.p) := by
  subst hW
  subst hR
  exact wl_snoc D c hb hm
/-- Those of the first j that are done. -/
def doneL (l H : List Cg) (j : Nat) : List Cg := (H.take j).filter fun c => !hasId l c.id
theorem doneL_zero (l H : List Cg) : doneL l H 0 = [] := rfl
theorem doneL_skip {l H : List Cg} {j : Nat} (hj : j < H.length) (h : hasId l H[j].id = true) : doneL l H (j + 1) = doneL l H j := by
  unfold doneL
  rw [List.take_succ_eq_append_getElem hj, List.filter_append, List.filter_cons_of_neg (by rw [h]; simp)]
  simp
theorem doneL_take {l H : List Cg} {j : Nat} (hj : j < H.length) (h : hasId l H[j].id = false) : doneL l H (j + 1) = doneL l H j ++ [H[j]] := by
  unfold doneL
  rw [List.take_succ_eq_append_getElem hj, List.filter_append, List.filter_cons_of_pos (by rw [h]; simp)]
  rfl
theorem base_want {x : DC} {H : List Cg} (h : x.Hist H) {j : Nat} (hj : j < x.base.length) (hj2 : j < (wl (doneL x.list H H.length)).length) : (wl (doneL x.list H H.length))[j] = x.base[j] := by
  have h1 := h.dev (j : Int)
  rw [bd_at rfl hj] at h1
  rw [wl_get, h1]
  unfold doneL ofC
  rw [List.take_length, List.filter_filter, List.filter_filter]
  refine congrArg _ (List.filter_congr fun c _ => ?_)
  exact Bool.and_comm _ _
theorem done_is {x : DC} {H : List Cg} (h : x.Hist H) {j : Nat} (hj : j < H.length) : x.done ((j : Int) + 1) = !hasId x.list ((j : Int) + 1) := by
  have := h.len
  unfold DC.done
  rw [decide_eq_true (by omega), decide_eq_true (by omega)]
  rfl
/-- A step's cells. -/
def Row5 (w : World) (a : Addr) (i b at_ : Int) (Ad : Option Addr) (nd cd : Nat) (An : Option Addr) (nn cn : Nat) : Prop :=
  w.cell? a = some (.int .i64 i) ∧ w.cell? (a.add 1) = some (.int .i64 b) ∧ w.cell? (a.add 2) = some (.int .i64 at_) ∧ w.cell? (a.add 3) = some (.slice Ad nd cd) ∧ w.cell? (a.add 4) = some (.slice An nn cn)
theorem Row5.ext {w w' : World} {a : Addr} {i b at_ : Int} {Ad : Option Addr} {nd cd : Nat} {An : Option Addr} {nn cn : Nat} (h : Row5 w a i b at_ Ad nd cd An nn cn) (hb : Below w.heap.size w w') : Row5 w' a i b at_ Ad nd cd An nn cn :=
  ⟨cell_ext hb h.1, cell_ext hb h.2.1, cell_ext hb h.2.2.1, cell_ext hb h.2.2.2.1, cell_ext hb h.2.2.2.2⟩
theorem Row5.only {w w' : World} {a : Addr} {i b at_ : Int} {Ad : Option Addr} {nd cd : Nat} {An : Option Addr} {nn cn : Nat} (h : Row5 w a i b at_ Ad nd cd An nn cn) {q : Nat} (ho : Only w w' q) (hq : a.block ≠ q) : Row5 w' a i b at_ Ad nd cd An nn cn := by
  have key : ∀ (p : Addr) (u : Value), p.block = a.block → w.cell? p = some u → w'.cell? p = some u := fun p u hp hc => by
    rw [World.cell?_of_block (w := w) (w' := w') (a := p) (by rw [hp]; exact ho.block _ hq)]
    exact hc
  exact ⟨key _ _ rfl h.1, key _ _ (block_of_add _ _) h.2.1, key _ _ (block_of_add _ _) h.2.2.1, key _ _ (block_of_add _ _) h.2.2.2.1, key _ _ (block_of_add _ _) h.2.2.2.2⟩
theorem low4 {i b a : Int} {A A' : Option Addr} {n c n' c' B : Nat} (h : ∀ q ∈ blocksOf [Value.int .i64 i, .int .i64 b, .int .i64 a, .slice A n c, .slice A' n' c'], q < B) (hn : 0 < n') : ∀ ad, A' = some ad → ad.block < B := fun ad e =>
  h _ (mem_blocksOf.2 ⟨.slice A' n' c', by simp, by rw [e, leads_slice, if_neg (by omega)]⟩)
theorem ivals_at (N : List Int) {q : Nat} (h : q < N.length) (h' : q < (ivals N).length) : (ivals N)[q] = .int .i64 N[q] := by simp [ivals]
set_option maxRecDepth 100000 in
set_option maxHeartbeats 16000000 in
theorem cacheCloses_any (A : Option Addr) (n cap : Nat) (l : List Cg) (hn : l.length = n) (hcap : n ≤ cap) (hm : cap ≤ maxLen) (w : World) (hr : RdL RdC w A 5 l) :
    Calls Try.prog 5 #[.slice A n cap] w fun e w' => e = .returned (.bool true) ∧ Below w.heap.size w w' := by
  have Hn := Lib.hid hn
  have Hr := Lib.hid hr
  have HM := Lib.hid (much12_any 20 (by decide) A n cap l hn (Nat.le_trans hcap hm) w hr)
  clear hn hr
  go_enter Try.func5, Try.ntmps5
  go_wp2_with fail
  refine (HM.out).mono ?_; rintro e w1 ⟨rfl, rfl⟩
  cases hmu : muchS l 20
  rotate_left
  · clear hmu
    go_wp2_with fail
    refine (works12_any _).mono ?_; rintro e w2 ⟨rfl, hb2⟩
    have B2 := Lib.hid hb2
    clear hb2
    go_wp2_with fail
    go_ret
    exact ⟨rfl, B2.out⟩
  · obtain ⟨hl20, hsz⟩ := muchS_no hmu
    have HSZ := Lib.hid hsz
    rw [Hn.out] at hl20
    clear hmu hsz
    go_wp2_with fail
    refine (dnew_any 16 (by omega) (by omega) _).mono ?_; rintro e w2 ⟨b, g, rfl, hb2, hg2, hd2, hbw2⟩
    have D2 := Lib.hid hd2
    have B2 := Lib.hid hbw2
    have L2 := Lib.hid (And.intro hb2 hg2)
    clear hb2 hg2 hd2 hbw2
    go_wp2_with fail
    refine (c_new b g w2 D2.out).mono ?_; rintro e w3 ⟨ro3, c, rfl, hc3, ht3⟩
    have lo : Std w w2 (roD b g) := ⟨B2.out, fun k r hk => by
      unfold roD at hk
      by_cases e : k = b ∨ k = g
      · have := L2.out; omega
      · rw [if_neg e] at hk; cases hk⟩
    have C3 := Lib.hid hc3
    have S3 := Lib.hid (lo.tr ht3)
    have W3 := Lib.hid (And.intro (DC.new_hist 16) (show (DC.new 16).base.length = 16 from List.length_replicate))
    obtain ⟨x3, hx3⟩ : ∃ x, DC.new 16 = x := ⟨_, rfl⟩
    rw [hx3] at C3 W3
    clear hc3 ht3 lo D2 B2 hx3
    go_wp2_with fail
    go_loopw [5, 6] (fun v i wr => ∃ (k : Nat) (ro : Nat → Option Rl) (x : DC) (L H : List Cg), k ≤ n ∧ i = .int .i64 k ∧ Cch wr ro c b g x k ∧ Std w wr ro ∧ x.Hist H ∧ x.base.length = 16 ∧ MO L H ∧ AL w.heap.size wr ro v L) (fun _ i _ => n - (intOf i).toNat)
    case atStart => exact ⟨0, ro3, x3, [], [], Nat.zero_le _, rfl, C3.out, S3.out, W3.out.1, W3.out.2, MO.nil_, OwnL.nil_ _ _ _ _ _, fun g hg => by simp [Value.ownBlock] at hg⟩
    case round =>
      obtain ⟨k, ro, x, L, H, hk, rfl, hc, hst, hh, hbl, hmo, hal⟩ := hrel
      have C := Lib.hid hc
      have S := Lib.hid hst
      have HH := Lib.hid hh
      have BL := Lib.hid hbl
      have MM := Lib.hid hmo
      have AA := Lib.hid hal
      clear hc hst hh hbl hmo hal C3 S3 W3
      by_cases hlt : k < n
      · have d1 : decide ((k : Int) < (n : Int)) = true := by simpa using hlt
        have hkl : k < l.length := by rw [Hn.out]; exact hlt
        have HSK := Lib.hid (HSZ.out _ (List.getElem_mem hkl))
        obtain ⟨ad, Ad, nd, cd, An, nn, cn, rfl, hcv, hlow, g0, g1, g2, g3, g4⟩ := Hr.out.isLow.cgLow hkl
        have FN := Lib.hid (fun (hz : 0 < nn) (ad : Addr) (e : An = some ad) => S.out.none (cv_low hcv hz ad e))
        have CV0 := Lib.hid hcv
        have LOW := Lib.hid hlow
        rw [hcv.p.len, hcv.len] at HSK
        generalize l[k] = s at *
        have G0 := Lib.hid g0
        have G1 := Lib.hid g1
        have G2 := Lib.hid g2
        have G3 := Lib.hid g3
        have G4 := Lib.hid g4
        have h0 := cell_ext S.out.bel g0
        have h1 := cell_ext S.out.bel g1
        have h2 := cell_ext S.out.bel g2
        have h3 := cell_ext S.out.bel g3
        have h4 := cell_ext S.out.bel g4
        clear hkl hcv hlow g0 g1 g2 g3 g4
        have CG := go12_any C.out (by omega) s Ad nd cd An nn cn (CV0.out.below S.out.bel) HSK.out.1 HSK.out.2 FN.out
        have HG := Lib.hid (DC.go_hist HH.out C.out.ok (stOf s))
        have LG := Lib.hid (DC.go_blen x (stOf s))
        have PG := Lib.hid (fun (h0 : s.id = 0) (he : (x.go (stOf s)).2.2 = 0) => DC.go_put (x := x) (s := stOf s) h0 he)
        have KL := Lib.hid (show x.knows.length = 16 by rw [C.out.ok.kl]; exact BL.out)
        have XL := Lib.hid C.out.last
        obtain ⟨y, hy⟩ : ∃ y, (x.go (stOf s)).1 = y := ⟨_, rfl⟩
        obtain ⟨zn, hzn⟩ : ∃ z, (x.go (stOf s)).2.1 = z := ⟨_, rfl⟩
        obtain ⟨ze, hze⟩ : ∃ z, (x.go (stOf s)).2.2 = z := ⟨_, rfl⟩
        rw [hy, hzn, hze] at CG
        rw [hy] at HG LG
        rw [hze] at PG
        rw [hzn] at PG
        have HZE := Lib.hid hze
        have YL := Lib.hid (show y.base.length = 16 by rw [LG.out]; exact BL.out)
        clear hy hzn hze
        go_wp2_with (refine wpList_load_five rfl _ _ rfl (ad.add (k * 5)) rfl _ _ _ _ _ h0 h1 h2 h3 h4 _ Try.underlying53 Try.stepSize ?_)
        refine (CG).mono ?_; rintro e w5 ⟨rfl, ro5, hc5, ht5⟩
        have C5 := Lib.hid hc5
        have S5 := Lib.hid (S.out.tr ht5)
        have AA5 := Lib.hid (AA.out.tr S.out ht5)
        clear hc5 ht5 CG C S AA h0 h1 h2 h3 h4
        have h0 := cell_ext S5.out.bel G0.out
        obtain ⟨bb, hbb⟩ : ∃ q, decide (s.id = 0 ∧ ze = 0) = q := ⟨_, rfl⟩
        have HBB := Lib.hid hbb
        clear hbb
        go_upto_region 12 with fail
        go_cut [47] from 22 to 143 (fun v wx => v = .bool bb ∧ wx = w5)
        case first =>
          by_cases h00 : s.id = 0
          · have f1 : (s.id == 0) = true := by simp [h00]
            by_cases hz : ze = 0
            · have f2 : (ze == 0) = true := by simp [hz]
              have Z := Lib.hid (And.intro h00 hz)
              clear h00 hz
              go_wp2_with fail
              go_meet
              exact ⟨congrArg Value.bool ((decide_eq_true Z.out).symm.trans HBB.out), rfl⟩
            · have f2 : (ze == 0) = false := by simpa using hz
              have Z := Lib.hid (show ¬ (s.id = 0 ∧ ze = 0) from fun e => hz e.2)
              clear h00 hz
              go_wp2_with fail
              go_meet
              exact ⟨congrArg Value.bool ((decide_eq_false Z.out).symm.trans HBB.out), rfl⟩
          · have f1 : (s.id == 0) = false := by simpa using h00
            have Z := Lib.hid (show ¬ (s.id = 0 ∧ ze = 0) from fun e => h00 e.1)
            clear h00
            go_wp2_with fail
            go_meet
            exact ⟨congrArg Value.bool ((decide_eq_false Z.out).symm.trans HBB.out), rfl⟩
        case rest =>
          obtain ⟨rfl, rfl⟩ := hcut
          go_upto_if 47 with fail
          go_cut [5] from 22 to 143 (fun v wx => ∃ L' H', AL w.heap.size wx ro5 v L' ∧ MO L' H' ∧ y.Hist H' ∧ Cch wx ro5 c b g y (k + 1) ∧ Std w wx ro5)
          case first =>
            cases bb
            rotate_left
            · have hput := of_decide_eq_true HBB.out
              obtain ⟨p1, p2⟩ := PG.out hput.1 hput.2
              obtain ⟨_, pb, pc⟩ := DC.putE_ok p1
              have hrg := DC.has_iff.1 (DC.knownE_has pc)
              rw [KL.out] at hrg
              have HST := Lib.hid (show y.Hist (H ++ [x.made (stOf s)]) from by
                have h := HG.out
                rw [if_pos (show (stOf s).do_ = 0 ∧ x.putE (stOf s) = 0 from ⟨hput.1, p1⟩)] at h
                exact h)
              have MS := Lib.hid (MM.out.snoc HH.out.len s hrg (DC.bad_no pb) (by rw [CV0.out.p.len]; exact HSK.out.1))
              have hln : zn = ((L.length + 1 : Nat) : Int) := by have h1 := HH.out.len; have h2 := MM.out.len; rw [p2]; omega
              have hl1 : L.length + 1 ≤ 140737488355328 := by have h1 := HH.out.len; have h2 := MM.out.len; have h3 := XL.out; omega
              have hl2 : (L.length + 1) * 72 ≤ 140737488355328 := by have h1 := HH.out.len; have h2 := MM.out.len; have h3 := XL.out; omega
              have HL1 := Lib.hid (And.intro hl1 hl2)
              clear hput p1 p2 pb pc hrg HG PG hl1 hl2
              subst hln
              go_wp2_with (first | refine wpList_load_five rfl _ _ rfl (ad.add (k * 5)) rfl _ _ _ _ _ (cell_ext S5.out.bel G0.out) (cell_ext S5.out.bel G1.out) (cell_ext S5.out.bel G2.out) (cell_ext S5.out.bel G3.out) (cell_ext S5.out.bel G4.out) _ Try.underlying53 Try.stepSize ?_ | refine wpList_build_row rfl _ _ _ rfl Try.underlying46 5 72 _ Try.stepInfo (by decide) (by decide) #[.int .i64 s.id, .int .i64 s.block, .int .i64 s.p.at_, .slice Ad nd cd, .slice An nn cn] rfl rfl ?_)
              apply Stop.go; intro wB HgB HbB
              have AAB := Lib.hid (AA5.out.ext HgB.out.1)
              have HRB := Lib.hid (show (RdLow w.heap.size).R wB _ s from ⟨(CV0.out.below (bt S5.out.bel HgB.out.1)).rd, LOW.out⟩)
              have HZB := Lib.hid (bt S5.out.bel HgB.out.1)
              go_wp2_with (at_builtin; refine wpList_append_L (RdLow w.heap.size) rfl _ _ _ _ rfl Try.underlying46 5 72 _ Try.stepInfo rfl (by decide) w.heap.size _ L rfl AAB.out.1 _ _ rfl HbB.out rfl (by simp [Value.oneCell']) s HRB.out (fun q hq e => by have h1 := LOW.out q hq; have h2 := (AA5.out.1.lt q e).1; omega) HZB.out.size HL1.out.1 HL1.out.2 ?_)
              apply Stop.go
              intro gL capL wL HL HbL HgL HwL
              have CL := Lib.hid ((C5.out.ext HgB.out.1).grown HgL.out (fun q hq => AA5.out.2 q hq))
              have SL := Lib.hid (show Std w wL ro5 from ⟨HZB.out.trans HbL.out, S5.out.low⟩)
              have NL := Lib.hid (show ro5 gL = none from by
                rcases HwL.out.1 with h | h
                · exact AA5.out.2 _ h
                · exact (C5.out.ext HgB.out.1).none_ge (Nat.le_of_eq h.symm))
              go_wp2_with fail
              go_meet
              exact ⟨L ++ [s], H ++ [x.made (stOf s)], ⟨HL.out, fun q hq => by
                have e : gL = q := by simpa [Value.ownBlock] using hq
                subst e
                exact NL.out⟩, MS.out, HST.out, CL.out, SL.out⟩
            · have hput := of_decide_eq_false HBB.out
              have HST := Lib.hid (show y.Hist H from by
                have h := HG.out
                rw [if_neg (show ¬ ((stOf s).do_ = 0 ∧ x.putE (stOf s) = 0) from fun hh => hput ⟨hh.1, by
                  have e : (x.go (stOf s)).2.2 = x.putE (stOf s) := by unfold DC.go; rw [if_pos hh.1]
                  rw [← HZE.out, e]; exact hh.2⟩)] at h
                exact h)
              clear hput HG PG
              go_wp2_with fail
              go_meet
              exact ⟨L, H, AA5.out, MM.out, HST.out, C5.out, S5.out⟩
          case rest =>
            obtain ⟨L', H', hal, hmo, hh, hc, hst⟩ := hcut
            clear C5 S5 AA5 h0 HH MM HG PG HZE LG BL LOW FN CV0 G0 G1 G2 G3 G4
            generalize wc = w6 at *
            obtain ⟨A6, c6, hv, q1, q2, -⟩ := hal.1.read
            subst hv
            obtain ⟨n6, hn6⟩ : ∃ q, L'.length = q := ⟨_, rfl⟩
            rw [hn6] at hal q1 ⊢
            have HN6 := Lib.hid hn6
            have C6 := Lib.hid hc
            have S6 := Lib.hid hst
            have AA6 := Lib.hid hal
            have MM6 := Lib.hid hmo
            have HH6 := Lib.hid hh
            have hn21 : n6 ≤ 21 := by have h1 := hh.len; have h2 := hmo.len; have h3 := hc.last; omega
            clear hn6 hal hmo hh hc hst q1 q2
            go_wp2_with (refine wpList_alloc_row rfl _ rfl _ Try.wantZero12 ?_)
            apply Stop.go; intro w7 Hg7 Hb7
            have C7 := Lib.hid (C6.out.ext Hg7.out.1)
            have S7 := Lib.hid (S6.out.ext Hg7.out.1)
            have AA7 := Lib.hid (AA6.out.ext Hg7.out.1)
            have NW := Lib.hid (C6.out.none_ge (Nat.le_refl w6.heap.size))
            have GW := Lib.hid (show w.heap.size ≤ w6.heap.size from S6.out.bel.size)
            have NE := Lib.hid (show ∀ q, (Value.slice A6 n6 c6).ownBlock = some q → q < w6.heap.size from fun q hq => (AA6.out.1.lt q hq).2)
            obtain ⟨gw, hgw⟩ : ∃ q, q = w6.heap.size := ⟨_, rfl⟩
            rw [← hgw] at Hb7 NW GW NE ⊢
            clear hgw C6 S6 AA6 Hg7
            go_wp2_with fail
            go_loopw [10] (fun i wr => ∃ j : Nat, j ≤ n6 ∧ i = .int .i64 j ∧ Cch wr ro5 c b g y (k + 1) ∧ Std w wr ro5 ∧ AL w.heap.size wr ro5 (.slice A6 n6 c6) L' ∧ Blk wr gw 48 (bcells (wl (doneL y.list H' j)).flatten)) (fun i _ => n6 - (intOf i).toNat)
            case atStart => exact ⟨0, Nat.zero_le _, rfl, C7.out, S7.out, AA7.out, by rw [doneL_zero]; exact Hb7.out⟩
            case round =>
              obtain ⟨j, hj, rfl, hc, hst, hal, hbw⟩ := hrel
              have C := Lib.hid hc
              have S := Lib.hid hst
              have AA := Lib.hid hal
              have BW := Lib.hid hbw
              clear hc hst hal hbw C7 S7 AA7 Hb7
              by_cases hjn : j < n6
              · have d2 : decide ((j : Int) < (n6 : Int)) = true := by simpa using hjn
                have hjL : j < L'.length := by rw [HN6.out]; exact hjn
                have hjH : j < H'.length := by rw [MM6.out.len]; exact hjL
                have hwj1 : IntKind.i64.wrap ((j : Int) + 1) = (j : Int) + 1 := IntWalk.i64_in _ (by omega)
                obtain ⟨i1, i2, i3, i4⟩ := MM6.out.at_ j hjL hjH
                have CD := c_done C.out ((j : Int) + 1) (by omega) (by omega)
                rw [done_is HH6.out hjH] at CD
                cases hb : hasId y.list ((j : Int) + 1)
                rotate_left
                · have SK := Lib.hid (doneL_skip (l := y.list) hjH (by rw [i1]; exact hb))
                  rw [hb] at CD
                  clear hb i1 i2 i3 i4 hjL hjH
                  go_wp2_with fail
                  refine (CD).mono ?_; rintro e w8 ⟨rfl, rfl⟩
                  go_wp2_with fail
                  go_roundw
                  case rel => exact ⟨j + 1, by omega, by go_num, C.out, S.out, AA.out, by rw [SK.out]; exact BW.out⟩
                  case measure => simp [intOf]; omega
                · rw [hb] at CD
                  have TK := doneL_take (l := y.list) hjH (by rw [i1]; exact hb)
                  obtain ⟨ad9, Ad9, nd9, cd9, An9, nn9, cn9, rfl, hcv9, hlow9, r0, r1, r2, r3, r4⟩ := AA.out.1.rdAt.cgLow hjL
                  have hrg := MM6.out.rng j hjL
                  have hsm := MM6.out.small j hjL
                  have DNE := Lib.hid (show ∀ z ∈ L'[j].needs, y.done z = true from fun z hz => by
                    have h1 := MM6.out.need j hjL z hz
                    have h2 := HH6.out.closed (List.getElem_mem hjH) (by rw [i1]; exact hb) (n := z) (by rw [i4]; exact hz)
                    have h3 := HH6.out.len
                    have h4 := MM6.out.len
                    unfold DC.done
                    rw [h2, decide_eq_true (by omega), decide_eq_true (by omega)]
                    rfl)
                  obtain ⟨m, hmm⟩ : ∃ m : Nat, L'[j].block = (m : Int) := ⟨L'[j].block.toNat, by omega⟩
                  have hm16 : m < 16 := by omega
                  have hmI : (m : Int) < 16 := by omega
                  obtain ⟨W, hW⟩ : ∃ W, wl (doneL y.list H' j) = W := ⟨_, rfl⟩
                  have hmw : m < W.length := by rw [← hW, wl_len]; exact hm16
                  have HMW := Lib.hid hmw
                  have HBK := Lib.hid (show Bks W by rw [← hW]; exact wl_bks _)
                  obtain ⟨R, hR⟩ : ∃ R, W[m] = R := ⟨_, rfl⟩
                  have HRR := Lib.hid hR
                  have HRL := Lib.hid (show R.length = 256 by rw [← hR]; exact HBK.out _ (List.getElem_mem hmw))
                  have HWL := Lib.hid (show wl (doneL y.list H' (j + 1)) = W.set m (layP R L'[j].p) from by rw [TK, wl_step hW hmw hR H'[j] (by rw [i2]; exact hmm), i3])
                  rw [hW] at BW
                  rw [hmm] at r1
                  have HJL := Lib.hid hjL
                  have ND := Lib.hid (show nd9 ≤ 300 by rw [← hcv9.p.len]; exact hsm)
                  clear hW hR hrg hsm TK i1 i2 i3 i4 hjH hb hmm hmw
                  generalize L'[j] = s9 at *
                  have ROW := Lib.hid (show Row5 _ (ad9.add (j * 5)) s9.id (m : Int) s9.p.at_ Ad9 nd9 cd9 An9 nn9 cn9 from ⟨r0, r1, r2, r3, r4⟩)
                  have CV9 := Lib.hid hcv9
                  have LW9 := Lib.hid (show 0 < nn9 → ∀ ad, An9 = some ad → ad.block < w.heap.size from fun hz => low4 hlow9 hz)
                  have f4 : decide ((m : Int) < 0) = false := by simp
                  have f5 : decide ((15 : Int) < (m : Int)) = false := by rw [decide_eq_false_iff_not]; omega
                  have c1 := cell_fld r0 r1
                  clear hjL hcv9 hlow9 r0 r1 r2 r3 r4
                  go_wp2_with fail
                  refine (CD).mono ?_; rintro e w8 ⟨rfl, rfl⟩
                  go_upto_region 23 with fail
                  go_cut [] from 59 to 124 (fun wx => Cch wx ro5 c b g y (k + 1) ∧ Std w wx ro5 ∧ AL w.heap.size wx ro5 (.slice (some ad9) n6 c6) L' ∧ Blk wx gw 48 (bcells (W.set m (layP R s9.p)).flatten) ∧ Row5 wx (ad9.add (j * 5)) s9.id (m : Int) s9.p.at_ Ad9 nd9 cd9 An9 nn9 cn9 ∧ RC wx An9 (ivals s9.needs))
                  case first =>
                    refine WH.start (S := fun w' : World => Row5 w' (ad9.add (j * 5)) s9.id (m : Int) s9.p.at_ Ad9 nd9 cd9 An9 nn9 cn9) [false, false, false, false, false, false, false, false, false, false, false, false, false, false, false, false, false, false, false, false, false] 21 rfl rfl (by kernel_rfl) (ROW.out.ext (bdrew w8 1)) (fun hSn => ?_)
                    obtain ⟨wS, hwS⟩ : ∃ x, w8.drew = x := ⟨_, rfl⟩
                    have CS := Lib.hid (C.out.ext (bdrew w8 1))
                    have SS := Lib.hid (S.out.ext (bdrew w8 1))
                    have AS := Lib.hid (AA.out.ext (bdrew w8 1))
                    have BWS := Lib.hid (BW.out.ext (bdrew w8 1))
                    have VS := Lib.hid (CV9.out.below (bdrew w8 1))
                    have RS := Lib.hid (ROW.out.ext (bdrew w8 1))
                    rw [show w8.drewN 1 = wS from hwS] at CS SS AS BWS VS RS
                    rw [hwS] at hSn ⊢
                    clear hwS C S AA BW ROW c1
                    refine WH.take 0 _ ?_ rfl (by kernel_rfl) (fun _ _ _ h => h) rfl (by assumption) ?_ ?_; rotate_left; (focus (intro w hSw; (try dsimp only at hSw); (first | (go_simp; done) | (go_simp; with_reducible rfl)))); simp only [Act.put, List.setIfInBounds_toArray, List.set_cons_zero, List.set_cons_succ]
                    refine WH.take 1 _ ?_ rfl (by kernel_rfl) (fun _ _ _ h => h) rfl (by assumption) ?_ ?_; rotate_left; (focus (intro w hSw; (try dsimp only at hSw); (first | (go_simp; done) | (go_simp; with_reducible rfl)))); simp only [Act.put, List.setIfInBounds_toArray, List.set_cons_zero, List.set_cons_succ]
                    refine WH.take 2 _ ?_ rfl (by kernel_rfl) (fun _ _ _ h => h) rfl (by assumption) ?_ ?_; rotate_left; (focus (intro w hSw; (try dsimp only at hSw); (first | (go_simp; done) | (go_simp; with_reducible rfl)))); simp only [Act.put, List.setIfInBounds_toArray, List.set_cons_zero, List.set_cons_succ]
                    refine WH.take 3 _ ?_ rfl (by kernel_rfl) (fun _ _ _ h => h) rfl (by assumption) ?_ ?_; rotate_left; (focus (intro w hSw; (try dsimp only at hSw); (first | (go_simp; done) | (go_simp; with_reducible rfl)))); simp only [Act.put, List.setIfInBounds_toArray, List.set_cons_zero, List.set_cons_succ]
                    refine WH.take 4 _ _ rfl (by kernel_rfl) (fun _ _ _ h => h) rfl (by assumption) (fun w' hSw => exec_load_cell _ _ rfl _ rfl (.int .i64 (m : Int)) (cell_fld hSw.1 hSw.2.1) _ Try.underlying3 rfl) ?_; simp only [Act.put, List.setIfInBounds_toArray, List.set_cons_zero, List.set_cons_succ]
                    refine WH.take 5 _ ?_ rfl (by kernel_rfl) (fun _ _ _ h => h) rfl (by assumption) ?_ ?_; rotate_left; (focus (intro w hSw; (try dsimp only at hSw); (first | (go_simp; done) | (go_simp; with_reducible rfl)))); simp only [Act.put, List.setIfInBounds_toArray, List.set_cons_zero, List.set_cons_succ]
                    refine WH.take 6 _ ?_ rfl (by kernel_rfl) (fun _ _ _ h => h) rfl (by assumption) ?_ ?_; rotate_left; (focus (intro w hSw; (try dsimp only at hSw); (first | (go_simp; done) | (go_simp; with_reducible rfl)))); simp only [Act.put, List.setIfInBounds_toArray, List.set_cons_zero, List.set_cons_succ]
                    refine WH.take 7 _ ?_ rfl (by kernel_rfl) (fun _ _ _ h => h) rfl (by assumption) ?_ ?_; rotate_left; (focus (intro w hSw; (try dsimp only at hSw); (first | (go_simp; done) | (go_simp; with_reducible rfl)))); simp only [Act.put, List.setIfInBounds_toArray, List.set_cons_zero, List.set_cons_succ]
                    refine WH.take 8 _ ?_ rfl (by kernel_rfl) (fun _ _ _ h => h) rfl (by assumption) ?_ ?_; rotate_left; (focus (intro w hSw; (try dsimp only at hSw); (first | (go_simp; done) | (go_simp; with_reducible rfl)))); simp only [Act.put, List.setIfInBounds_toArray, List.set_cons_zero, List.set_cons_succ]
                    refine WH.take 9 _ _ rfl (by kernel_rfl) (fun _ _ _ h => h) rfl (by assumption) (fun w' hSw => exec_load_cell _ _ rfl _ rfl (.int .i64 (m : Int)) (cell_fld hSw.1 hSw.2.1) _ Try.underlying3 rfl) ?_; simp only [Act.put, List.setIfInBounds_toArray, List.set_cons_zero, List.set_cons_succ]
                    refine WH.take 10 _ ?_ rfl (by kernel_rfl) (fun _ _ _ h => h) rfl (by assumption) ?_ ?_; rotate_left; (focus (intro w hSw; (try dsimp only at hSw); (first | (go_simp; done) | (go_simp; with_reducible rfl)))); simp only [Act.put, List.setIfInBounds_toArray, List.set_cons_zero, List.set_cons_succ]
                    refine WH.take 12 _ ?_ rfl (by kernel_rfl) (fun _ _ _ h => h) rfl (by assumption) ?_ ?_; rotate_left; (focus (intro w hSw; (try dsimp only at hSw); (first | (go_simp; done) | (go_simp; with_reducible rfl)))); simp only [Act.put, List.setIfInBounds_toArray, List.set_cons_zero, List.set_cons_succ]
                    refine WH.take 13 _ ?_ rfl (by kernel_rfl) (fun _ _ _ h => h) rfl (by assumption) ?_ ?_; rotate_left; (focus (intro w hSw; (try dsimp only at hSw); (first | (go_simp; done) | (go_simp; with_reducible rfl)))); simp only [Act.put, List.setIfInBounds_toArray, List.set_cons_zero, List.set_cons_succ]
                    refine WH.take 14 _ ?_ rfl (by kernel_rfl) (fun _ _ _ h => h) rfl (by assumption) ?_ ?_; rotate_left; (focus (intro w hSw; (try dsimp only at hSw); (first | (go_simp; done) | (go_simp; with_reducible rfl)))); simp only [Act.put, List.setIfInBounds_toArray, List.set_cons_zero, List.set_cons_succ]
                    refine WH.take 15 _ ?_ rfl (by kernel_rfl) (fun _ _ _ h => h) rfl (by assumption) ?_ ?_; rotate_left; (focus (intro w hSw; (try dsimp only at hSw); (first | (go_simp; done) | (go_simp; with_reducible rfl)))); simp only [Act.put, List.setIfInBounds_toArray, List.set_cons_zero, List.set_cons_succ]
                    refine WH.take 16 _ _ rfl (by kernel_rfl) (fun _ _ _ h => h) rfl (by assumption) (fun w' hSw => exec_load_pair _ _ rfl _ rfl (.int .i64 s9.p.at_) (.slice Ad9 nd9 cd9) (cell_fld hSw.1 hSw.2.2.1) (cell_fld1 hSw.1 hSw.2.2.2.1) _ Try.underlying51 Try.r07Size) ?_; simp only [Act.put, List.setIfInBounds_toArray, List.set_cons_zero, List.set_cons_succ]
                    have CT := to_any s9.p Ad9 nd9 cd9 wS VS.out.p (by have := ND.out; omega)
                    refine WH.two 11 17 _ _ rfl rfl (by kernel_rfl) rfl rfl (fun K hK => ?_) (fun K hK => ?_)
                    · unfold Oper.wp
                      rw [exec_load_bkR _ _ rfl ⟨gw, 0, none⟩ m (by rw [addr_add0]; rfl) W HBK.out HMW.out R HRR.out (RK.of_blk HBK.out BWS.out) _ Try.underlying27 rfl Try.blockSize]
                      have hSn := hSn; refine hK _ _ hSn ?_; clear hK; clear K; simp only [Act.put, List.setIfInBounds_toArray, List.set_cons_zero, List.set_cons_succ]
                      refine WH.only 17 _ rfl (by kernel_rfl) rfl (fun K hK => ?_); go_simp; refine (CT).mono ?_; rintro e wp ⟨g7, n7, c7, rfl, hp7, hb7, hg7⟩; go_simp
                      have C7 := Lib.hid (CS.out.ext hb7)
                      have S7 := Lib.hid (SS.out.ext hb7)
                      have A7 := Lib.hid (AS.out.ext hb7)
                      have BW7 := Lib.hid (BWS.out.ext hb7)
                      have V7 := Lib.hid (VS.out.below hb7)
                      have R7 := Lib.hid (RS.out.ext hb7)
                      have P7 := Lib.hid hp7
                      clear hb7 hp7 hg7 CS SS AS BWS VS RS CT
                      have hSn := R7.out; refine hK _ _ hSn ?_; clear hK; clear K; simp only [List.set_cons_zero, List.set_cons_succ]
                      have CL := play_any R HRL.out s9.p (some ⟨g7, 0, none⟩) n7 c7 wp P7.out
                      refine WH.only 18 _ rfl (by kernel_rfl) rfl (fun K hK => ?_); go_simp; refine (CL).mono ?_; rintro e wq ⟨rfl, hb8⟩; go_simp
                      have C8 := Lib.hid (C7.out.ext hb8)
                      have S8 := Lib.hid (S7.out.ext hb8)
                      have A8 := Lib.hid (A7.out.ext hb8)
                      have BW8 := Lib.hid (BW7.out.ext hb8)
                      have V8 := Lib.hid (V7.out.below hb8)
                      have R8 := Lib.hid (R7.out.ext hb8)
                      clear hb8 CL C7 S7 A7 BW7 V7 R7
                      have hSn := R8.out; refine hK _ _ hSn ?_; clear hK; clear K; simp only [List.set_cons_zero, List.set_cons_succ]
                      refine WH.take 19 _ ?_ rfl (by kernel_rfl) (fun _ _ _ h => h) rfl (by assumption) ?_ ?_; rotate_left; (focus (intro w hSw; (try dsimp only at hSw); (first | (go_simp; done) | (go_simp; with_reducible rfl)))); simp only [Act.put, List.setIfInBounds_toArray, List.set_cons_zero, List.set_cons_succ]
                      have hly : (layP R s9.p).length = 256 := layP_len _ HRL.out
                      refine WH.only 20 _ rfl (by kernel_rfl) rfl (fun K hK => ?_)
                      refine ow_store_bk _ _ _ rfl Try.blockSize gw m rfl (layP R s9.p) rfl hly _ W HBK.out HMW.out BW8.out ?_
                      apply Stop.go; intro wt Ho9 Hb9
                      have C9 := Lib.hid (C8.out.only_none Ho9.out NW.out)
                      have S9 := Lib.hid (S8.out.only Ho9.out GW.out)
                      have A9 := Lib.hid (A8.out.only Ho9.out GW.out NE.out)
                      have R9 := Lib.hid (R8.out.only Ho9.out (by rw [block_of_add]; have := NE.out ad9.block rfl; omega))
                      have V9 := Lib.hid (V8.out.read.same (fun hl ad e => Ho9.out.block ad.block (by have h1 := LW9.out (by rw [ivals_len, V8.out.len] at hl; exact hl) ad e; have h2 := GW.out; omega)))
                      have hSn := R9.out; refine hK _ _ hSn ?_; clear hK; clear K; simp only [Act.put, List.set_cons_zero, List.set_cons_succ]
                      refine WH.done (by kernel_rfl) ?_
                      go_wp2_with fail
                      go_meet
                      exact ⟨C9.out, S9.out, A9.out, Hb9.out, R9.out, V9.out⟩
                    · go_simp; refine (CT).mono ?_; rintro e wp ⟨g7, n7, c7, rfl, hp7, hb7, hg7⟩; go_simp
                      have C7 := Lib.hid (CS.out.ext hb7)
                      have S7 := Lib.hid (SS.out.ext hb7)
                      have A7 := Lib.hid (AS.out.ext hb7)
                      have BW7 := Lib.hid (BWS.out.ext hb7)
                      have V7 := Lib.hid (VS.out.below hb7)
                      have R7 := Lib.hid (RS.out.ext hb7)
                      have P7 := Lib.hid hp7
                      clear hb7 hp7 hg7 CS SS AS BWS VS RS CT
                      have hSn := R7.out; refine hK _ _ hSn ?_; clear hK; clear K; simp only [List.set_cons_zero, List.set_cons_succ]
                      refine WH.only 11 _ rfl (by kernel_rfl) rfl (fun K hK => ?_)
                      unfold Oper.wp
                      rw [exec_load_bkR _ _ rfl ⟨gw, 0, none⟩ m (by rw [addr_add0]; rfl) W HBK.out HMW.out R HRR.out (RK.of_blk HBK.out BW7.out) _ Try.underlying27 rfl Try.blockSize]
                      have hSn := R7.out; refine hK _ _ hSn ?_; clear hK; clear K; simp only [Act.put, List.setIfInBounds_toArray, List.set_cons_zero, List.set_cons_succ]
                      have CL := play_any R HRL.out s9.p (some ⟨g7, 0, none⟩) n7 c7 wp P7.out
                      refine WH.only 18 _ rfl (by kernel_rfl) rfl (fun K hK => ?_); go_simp; refine (CL).mono ?_; rintro e wq ⟨rfl, hb8⟩; go_simp
                      have C8 := Lib.hid (C7.out.ext hb8)
                      have S8 := Lib.hid (S7.out.ext hb8)
                      have A8 := Lib.hid (A7.out.ext hb8)
                      have BW8 := Lib.hid (BW7.out.ext hb8)
                      have V8 := Lib.hid (V7.out.below hb8)
                      have R8 := Lib.hid (R7.out.ext hb8)
                      clear hb8 CL C7 S7 A7 BW7 V7 R7
                      have hSn := R8.out; refine hK _ _ hSn ?_; clear hK; clear K; simp only [List.set_cons_zero, List.set_cons_succ]
                      refine WH.take 19 _ ?_ rfl (by kernel_rfl) (fun _ _ _ h => h) rfl (by assumption) ?_ ?_; rotate_left; (focus (intro w hSw; (try dsimp only at hSw); (first | (go_simp; done) | (go_simp; with_reducible rfl)))); simp only [Act.put, List.setIfInBounds_toArray, List.set_cons_zero, List.set_cons_succ]
                      have hly : (layP R s9.p).length = 256 := layP_len _ HRL.out
                      refine WH.only 20 _ rfl (by kernel_rfl) rfl (fun K hK => ?_)
                      refine ow_store_bk _ _ _ rfl Try.blockSize gw m rfl (layP R s9.p) rfl hly _ W HBK.out HMW.out BW8.out ?_
                      apply Stop.go; intro wt Ho9 Hb9
                      have C9 := Lib.hid (C8.out.only_none Ho9.out NW.out)
                      have S9 := Lib.hid (S8.out.only Ho9.out GW.out)
                      have A9 := Lib.hid (A8.out.only Ho9.out GW.out NE.out)
                      have R9 := Lib.hid (R8.out.only Ho9.out (by rw [block_of_add]; have := NE.out ad9.block rfl; omega))
                      have V9 := Lib.hid (V8.out.read.same (fun hl ad e => Ho9.out.block ad.block (by have h1 := LW9.out (by rw [ivals_len, V8.out.len] at hl; exact hl) ad e; have h2 := GW.out; omega)))
                      have hSn := R9.out; refine hK _ _ hSn ?_; clear hK; clear K; simp only [Act.put, List.set_cons_zero, List.set_cons_succ]
                      refine WH.done (by kernel_rfl) ?_
                      go_wp2_with fail
                      go_meet
                      exact ⟨C9.out, S9.out, A9.out, Hb9.out, R9.out, V9.out⟩
                  case rest =>
                    obtain ⟨hc, hst, hal, hbw, hrow, hrc⟩ := hcut
                    have NL := Lib.hid CV9.out.len
                    have NB := Lib.hid CV9.out.nb
                    have NC := Lib.hid (And.intro CV9.out.cap CV9.out.max)
                    generalize wc = w9 at *
                    have C9 := Lib.hid hc
                    have S9 := Lib.hid hst
                    have A9 := Lib.hid hal
                    have B9 := Lib.hid hbw
                    have R9 := Lib.hid hrow
                    have V9 := Lib.hid hrc
                    have c4 := cell_fld hrow.1 hrow.2.2.2.2
                    clear hc hst hal hbw hrow hrc C S AA BW ROW CV9 c1
                    go_wp2_with fail
                    have hq64 : nn9 ≤ 9223372036854775807 := by have h := NC.out; unfold maxLen at h; omega
                    go_loopw [11] (fun i wr => ∃ q : Nat, q ≤ nn9 ∧ i = .int .i64 q ∧ wr = w9) (fun i _ => nn9 - (intOf i).toNat)
                    case atStart => exact ⟨0, Nat.zero_le _, rfl, by first | rfl | trivial⟩
                    case round =>
                      obtain ⟨q, hq, rfl, hwr⟩ := hrel
                      subst hwr
                      by_cases hqn : q < nn9
                      · have d3 : decide ((q : Int) < (nn9 : Int)) = true := by simpa using hqn
                        have hqN : q < s9.needs.length := by rw [NL.out]; exact hqn
                        obtain ⟨adn, rfl, hcn⟩ := V9.out q (by rw [ivals_len]; exact hqN)
                        rw [ivals_at _ hqN] at hcn
                        have hnb := NB.out _ (List.getElem_mem hqN)
                        have CD2 := c_done C9.out s9.needs[q] hnb.1 hnb.2
                        rw [DNE.out _ (List.getElem_mem hqN)] at CD2
                        have hqI : (q : Int) < (nn9 : Int) := by omega
                        generalize s9.needs[q] = z at *
                        clear hqN hnb
                        go_wp2_with fail
                        refine (CD2).mono ?_; rintro e w10 ⟨rfl, rfl⟩
                        go_wp2_with fail
                        go_roundw
                        case rel => exact ⟨q + 1, by omega, by go_num, by first | rfl | trivial⟩
                        case measure => simp [intOf]; omega
                      · have d3 : decide ((q : Int) < (nn9 : Int)) = false := by simpa using hqn
                        go_wp2_with fail
                        go_roundw
                        case rel => exact ⟨j + 1, by omega, by go_num, C9.out, S9.out, A9.out, by rw [HWL.out]; exact B9.out⟩
                        case measure => simp [intOf]; omega
              · have d2 : decide ((j : Int) < (n6 : Int)) = false := by simpa using hjn
                obtain rfl : j = n6 := by omega
                have CI := c_image C.out (by rw [YL.out]; omega)
                rw [YL.out] at CI
                go_wp2_with fail
                refine (CI).mono ?_; rintro e w9 ⟨gi, ci, rfl, hge, hlt9, hrk, _, _, hb9⟩
                have RI := Lib.hid hrk
                have C9 := Lib.hid (C.out.ext hb9)
                have S9 := Lib.hid (S.out.ext hb9)
                have A9 := Lib.hid (AA.out.ext hb9)
                have B9 := Lib.hid (BW.out.ext hb9)
                have HB := Lib.hid C9.out.ok.bks
                have EQ := Lib.hid (show ∀ i (h1 : i < y.base.length) (h2 : i < (wl (doneL y.list H' j)).length), (wl (doneL y.list H' j))[i] = y.base[i] from by
                  have e : j = H'.length := by rw [MM6.out.len, HN6.out]
                  subst e
                  exact fun i h1 h2 => base_want HH6.out h1 h2)
                have HBK := Lib.hid (wl_bks (doneL y.list H' j))
                have WL := Lib.hid (wl_len (doneL y.list H' j))
                obtain ⟨X, hX⟩ : ∃ X, y.base = X := ⟨_, rfl⟩
                obtain ⟨W, hW⟩ : ∃ W, wl (doneL y.list H' j) = W := ⟨_, rfl⟩
                have XL16 := Lib.hid (show X.length = 16 by rw [← hX]; exact YL.out)
                rw [hX] at RI HB EQ
                rw [hW] at B9 EQ HBK WL
                clear hrk hge hlt9 hb9 hX hW CI C S AA BW
                go_wp2_with fail
                go_loopw [13] (fun i wr => ∃ q : Nat, q ≤ 16 ∧ i = .int .i64 q ∧ Below w9.heap.size w9 wr) (fun i _ => 16 - (intOf i).toNat)
                case atStart => exact ⟨0, by omega, rfl, Below.refl _ _⟩
                case round =>
                  obtain ⟨q, hq, rfl, hbq⟩ := hrel
                  have BQ := Lib.hid hbq
                  clear hbq
                  by_cases hq16 : q < 16
                  · have d3 : decide ((q : Int) < 16) = true := by rw [decide_eq_true_eq]; omega
                    have hqI : (q : Int) < 16 := by omega
                    have hqX : q < X.length := by rw [XL16.out]; exact hq16
                    have hqW : q < W.length := by rw [WL.out]; exact hq16
                    obtain ⟨M, hM⟩ : ∃ M, X[q] = M := ⟨_, rfl⟩
                    have HMX := Lib.hid hM
                    have HMW := Lib.hid ((EQ.out q hqX hqW).trans hM)
                    have HML := Lib.hid (show M.length = 256 by rw [← hM]; exact HB.out _ (List.getElem_mem hqX))
                    have HQX := Lib.hid hqX
                    have HQW := Lib.hid hqW
                    have RIq := Lib.hid (RI.out.below BQ.out)
                    have B9q := Lib.hid (B9.out.ext BQ.out)
                    clear hM
                    go_wp2_with fail
                    refine WH.start (S := fun w' : World => RK w' (some ⟨gi, 0, none⟩) X ∧ Blk w' gw 48 (bcells W.flatten)) [false, false, false, false, false, false, false, false, false, false, false, false, false] 13 rfl rfl (by kernel_rfl) ⟨RIq.out.below (bdrew wr 1), B9q.out.ext (bdrew wr 1)⟩ (fun hSn => ?_)
                    obtain ⟨wS, hwS⟩ : ∃ x, wr.drew = x := ⟨_, rfl⟩
                    have BS := Lib.hid (bt BQ.out (bdrew wr 1))
                    rw [show wr.drewN 1 = wS from hwS] at BS
                    rw [hwS] at hSn ⊢
                    clear hwS RIq B9q
                    refine WH.take 0 _ ?_ rfl (by kernel_rfl) (fun _ _ _ h => h) rfl (by assumption) ?_ ?_; rotate_left; (focus (intro w hSw; (try dsimp only at hSw); (first | (go_simp; done) | (go_simp; with_reducible rfl)))); simp only [Act.put, List.setIfInBounds_toArray, List.set_cons_zero, List.set_cons_succ]
                    refine WH.take 1 _ ?_ rfl (by kernel_rfl) (fun _ _ _ h => h) rfl (by assumption) ?_ ?_; rotate_left; (focus (intro w hSw; (try dsimp only at hSw); (first | (go_simp; done) | (go_simp; with_reducible rfl)))); simp only [Act.put, List.setIfInBounds_toArray, List.set_cons_zero, List.set_cons_succ]
                    refine WH.take 2 _ ?_ rfl (by kernel_rfl) (fun _ _ _ h => h) rfl (by assumption) ?_ ?_; rotate_left; (focus (intro w hSw; (try dsimp only at hSw); (first | (go_simp; done) | (go_simp; with_reducible rfl)))); simp only [Act.put, List.setIfInBounds_toArray, List.set_cons_zero, List.set_cons_succ]
                    refine WH.take 3 _ ?_ rfl (by kernel_rfl) (fun _ _ _ h => h) rfl (by assumption) ?_ ?_; rotate_left; (focus (intro w hSw; (try dsimp only at hSw); (first | (go_simp; done) | (go_simp; with_reducible rfl)))); simp only [Act.put, List.setIfInBounds_toArray, List.set_cons_zero, List.set_cons_succ]
                    refine WH.take 4 _ ?_ rfl (by kernel_rfl) (fun _ _ _ h => h) rfl (by assumption) ?_ ?_; rotate_left; (focus (intro w hSw; (try dsimp only at hSw); (first | (go_simp; done) | (go_simp; with_reducible rfl)))); simp only [Act.put, List.setIfInBounds_toArray, List.set_cons_zero, List.set_cons_succ]
                    refine WH.take 5 _ ?_ rfl (by kernel_rfl) (fun _ _ _ h => h) rfl (by assumption) ?_ ?_; rotate_left; (focus (intro w hSw; (try dsimp only at hSw); (first | (go_simp; done) | (go_simp; with_reducible rfl)))); simp only [Act.put, List.setIfInBounds_toArray, List.set_cons_zero, List.set_cons_succ]
                    refine WH.take 6 _ ?_ rfl (by kernel_rfl) (fun _ _ _ h => h) rfl (by assumption) ?_ ?_; rotate_left; (focus (intro w hSw; (try dsimp only at hSw); (first | (go_simp; done) | (go_simp; with_reducible rfl)))); simp only [Act.put, List.setIfInBounds_toArray, List.set_cons_zero, List.set_cons_succ]
                    refine WH.take 7 _ _ rfl (by kernel_rfl) (fun _ _ _ h => h) rfl (by assumption) (fun w' hSw => exec_load_bkR _ _ rfl ⟨gi, 0, none⟩ q (by rw [addr_add0]; rfl) X HB.out HQX.out M HMX.out hSw.1 _ Try.underlying27 rfl Try.blockSize) ?_; simp only [Act.put, List.setIfInBounds_toArray, List.set_cons_zero, List.set_cons_succ]
                    refine WH.take 8 _ ?_ rfl (by kernel_rfl) (fun _ _ _ h => h) rfl (by assumption) ?_ ?_; rotate_left; (focus (intro w hSw; (try dsimp only at hSw); (first | (go_simp; done) | (go_simp; with_reducible rfl)))); simp only [Act.put, List.setIfInBounds_toArray, List.set_cons_zero, List.set_cons_succ]
                    refine WH.take 9 _ ?_ rfl (by kernel_rfl) (fun _ _ _ h => h) rfl (by assumption) ?_ ?_; rotate_left; (focus (intro w hSw; (try dsimp only at hSw); (first | (go_simp; done) | (go_simp; with_reducible rfl)))); simp only [Act.put, List.setIfInBounds_toArray, List.set_cons_zero, List.set_cons_succ]
                    refine WH.take 10 _ _ rfl (by kernel_rfl) (fun _ _ _ h => h) rfl (by assumption) (fun w' hSw => exec_load_bkR _ _ rfl ⟨gw, 0, none⟩ q (by rw [addr_add0]; rfl) W HBK.out HQW.out M HMW.out (RK.of_blk HBK.out hSw.2) _ Try.underlying27 rfl Try.blockSize) ?_; simp only [Act.put, List.setIfInBounds_toArray, List.set_cons_zero, List.set_cons_succ]
                    refine WH.take 11 _ _ rfl (by kernel_rfl) (fun _ _ _ h => h) rfl (by assumption) (fun w' hSw => exec_neq_arr _ _ _ _ rfl Try.blockGuard12 _ _ Try.underlying27 Try.underlying5 Try.byteSize M M rfl rfl HML.out HML.out false (by simp)) ?_; simp only [Act.put, List.setIfInBounds_toArray, List.set_cons_zero, List.set_cons_succ]
                    refine WH.take 12 _ ?_ rfl (by kernel_rfl) (fun _ _ _ h => h) rfl (by assumption) ?_ ?_; rotate_left; (focus (intro w hSw; (try dsimp only at hSw); (first | (go_simp; done) | (go_simp; with_reducible rfl)))); simp only [Act.put, List.setIfInBounds_toArray, List.set_cons_zero, List.set_cons_succ]
                    refine WH.done (by kernel_rfl) ?_
                    go_wp2_with fail
                    go_roundw
                    case rel => exact ⟨q + 1, by omega, by go_num, BS.out⟩
                    case measure => simp [intOf]; omega
                  · have d3 : decide ((q : Int) < 16) = false := by rw [decide_eq_false_iff_not]; omega
                    go_wp2_with fail
                    go_roundw
                    case rel => exact ⟨k + 1, ro5, y, L', H', by omega, by go_num, C9.out.ext BQ.out, S9.out.ext BQ.out, HH6.out, YL.out, MM6.out, A9.out.ext BQ.out⟩
                    case measure => simp [intOf]; omega
      · have d1 : decide ((k : Int) < (n : Int)) = false := by simpa using hlt
        go_wp2_with fail
        refine (works12_any _).mono ?_; rintro e w10 ⟨rfl, hb10⟩
        have B10 := Lib.hid (S.out.ext hb10).bel
        clear hb10
        go_wp2_with fail
        go_ret
        exact ⟨rfl, B10.out⟩

end Go.Proofs.Ytknbjdldmednlaa
