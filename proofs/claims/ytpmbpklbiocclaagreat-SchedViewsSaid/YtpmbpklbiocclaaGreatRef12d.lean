/-
  The contract of the document's Put.
-/
import Derived.Test.YtpmbpklbiocclaaGreatGrBA
import Derived.Test.YtpmbpklbiocclaaGreatGrBD
import Derived.Test.YtpmbpklbiocclaaGreatGrAD
import Derived.Test.YtpmbpklbiocclaaGreatGrAF
namespace Go.Proofs.YtpmbpklbiocclaaGreat
open Go.RowKit

theorem DC.put_bad {x : DC} {s : StC} (h : x.putE s ≠ 0) : x.put s = x ∧ x.putN s = 0 := by
  unfold DC.put DC.putN
  rw [if_neg h, if_neg h]
  exact ⟨rfl, rfl⟩
theorem DC.putE_right {x : DC} {s : StC} (h : s.p.right = false) : x.putE s = 1 := by
  unfold DC.putE
  rw [h]
  rfl
theorem DC.putE_bad {x : DC} {s : StC} (h : s.p.right = true) (hb : x.bad s.needs = true) : x.putE s = 1 := by
  unfold DC.putE
  rw [h, hb]
  rfl
theorem DC.putE_kn {x : DC} {s : StC} (h : s.p.right = true) (hb : x.bad s.needs = false) : x.putE s = x.knownE s.no := by
  unfold DC.putE
  rw [h, hb]
  rfl
theorem DC.known_parts (x : DC) (no : Int) : (x.known no).base = x.base ∧ (x.known no).list = x.list ∧ (x.known no).last = x.last ∧ (x.known no).fuse = x.fuse ∧ (x.known no).off = x.off ∧ (x.known no).wrote = x.wrote ∧ (x.knownE no = 0 → (x.known no).knows = x.knows.set no.toNat true) := by
  unfold DC.known
  split
  · exact ⟨rfl, rfl, rfl, rfl, rfl, rfl, fun _ => rfl⟩
  · rename_i h
    exact ⟨rfl, rfl, rfl, rfl, rfl, rfl, fun h2 => absurd h2 h⟩
def DC.needsTo (x : DC) (needs : List Int) (k : Nat) : List Int := ((List.range k).map fun (j : Nat) => (j : Int) + 1).filter fun n => needs.contains n && !x.done n
theorem DC.needsTo_all (x : DC) (needs : List Int) : x.needsTo needs x.last = x.needsOf needs := rfl
theorem DC.needsTo_succ (x : DC) (needs : List Int) (k : Nat) : x.needsTo needs (k + 1) = if (needs.contains ((k : Int) + 1) && !x.done ((k : Int) + 1)) = true then x.needsTo needs k ++ [(k : Int) + 1] else x.needsTo needs k := by
  unfold DC.needsTo
  rw [List.range_succ, List.map_append, List.filter_append]
  cases h : (needs.contains ((k : Int) + 1) && !x.done ((k : Int) + 1))
  · rw [if_neg (by simp), List.map_singleton, List.filter_cons, if_neg (by rw [h]; simp)]
    simp
  · rw [if_pos rfl, List.map_singleton, List.filter_cons, if_pos h]
    rfl
theorem DC.needsTo_len (x : DC) (needs : List Int) (k : Nat) : (x.needsTo needs k).length ≤ k := by
  refine Nat.le_trans (List.length_filter_le _ _) ?_
  simp
theorem DC.bad_yes {x : DC} {needs : List Int} {k : Nat} (hk : k < needs.length) (h : needs[k] < 1 ∨ (x.last : Int) < needs[k]) : x.bad needs = true := by
  unfold DC.bad
  refine List.any_eq_true.2 ⟨needs[k], List.getElem_mem hk, ?_⟩
  simpa using h
theorem DC.bad_not {x : DC} {needs : List Int} (h : ∀ k (hk : k < needs.length), ¬ (needs[k] < 1 ∨ (x.last : Int) < needs[k])) : x.bad needs = false := by
  unfold DC.bad
  refine List.any_eq_false.2 fun n hn => ?_
  obtain ⟨k, hk, rfl⟩ := List.getElem_of_mem hn
  simpa using h k hk
section
variable {P : Program} {o : Oper} {a : Act} {w : World} {K : Act → World → Prop} {Q : Exit → Act → World → Prop}
theorem ow_append_copyG {α : Type} (D : Rds α) (h1 : ∀ w r y, D.R w r y → ∀ u ∈ r, u.oneCell' = true) (s x : Operand) (t e : TypeId) (ho : o.op = .call { callee := .builtin .append, args := #[s, x], argTypes := #[t, t] })
    (ht : P.underlying t = some (.slice e)) (N by_ : Nat) (z : Value) (hi : (P.info? e).map (fun i => (i.zero, i.size, i.bytes)) = some (some z, N, by_)) (hz : z.cells.size = N) (h0 : 0 < N)
    (g0 : Nat) (hs : a.eval s = .slice (some ⟨g0, 0, none⟩) 0 0) (hg0 : Blk w g0 e #[]) (w0 : World) (A : Option Addr) (n c : Nat) (l : List α) (hx : a.eval x = .slice A n c) (hn : l.length = n) (hr : RdL D w0 A N l) (hb : Below w0.heap.size w0 w) (hw0 : w0.heap.size ≤ g0) (hlen : n ≤ 140737488355328) (hby : n * by_ ≤ 140737488355328)
    (h : Stop (∀ v' w', Hid (OwnL D w' g0 e N v' l) → Hid (Below g0 w w' ∧ w.grownBy w' (some g0)) → K (a.put o.dst v') w')) : o.wp P a w K Q := by
  obtain ⟨rows, r1, r2, r3, r4⟩ := hr
  obtain ⟨v', w', hrun, q1, q2, q3⟩ := run_append_copyN P w t o.type e ht N by_ z hi hz h0 g0 hg0 A n c rows (fun r hr => by
    obtain ⟨k, hk, rfl⟩ := List.getElem_of_mem hr
    exact ⟨r1 _ hr, h1 _ _ _ (r4 k hk (by omega))⟩) (by omega) (r2.below hb) hlen hby
  have hb2 : Below w0.heap.size w0 w' := hb.trans (q2.mono hw0)
  unfold Oper.wp execOp
  simp only [ho, resolve, invoke, builtin, Sem.run_bind, Sem.run_pure, Result.andThen_ok, List.map_toArray, List.map_cons, List.map_nil, hs, hx, hrun]
  refine h v' w' ⟨rows, q1, r3, fun k hk hk' => D.below (r4 k hk hk') hb2, fun r hr g hg e => ?_⟩ ⟨q2, q3⟩
  obtain ⟨k, hk, rfl⟩ := List.getElem_of_mem hr
  have h2 := D.there (r4 k hk (by omega)) g hg
  have h3 := (q1.lt g e).1
  omega
end
theorem Tryz.dcIntSzP : (Tryz.prog.info? 3).map (·.size) = some 1 := by kernel_rfl
theorem Tryz.dcListSzP : (Tryz.prog.info? 29).map (·.size) = some 1 := by kernel_rfl
theorem blocks_new {i b a : Int} {A A' : Option Addr} {n c n' c' q : Nat} (h : q ∈ blocksOf [Value.int .i64 i, .int .i64 b, .int .i64 a, .slice A n c, .slice A' n' c']) : (∃ ad, A = some ad ∧ 0 < n ∧ q = ad.block) ∨ (∃ ad, A' = some ad ∧ 0 < n' ∧ q = ad.block) := by
  obtain ⟨v, hv, hl⟩ := mem_blocksOf.1 h
  simp only [List.mem_cons, List.mem_nil_iff, or_false] at hv
  rcases hv with rfl | rfl | rfl | rfl | rfl
  · cases hl
  · cases hl
  · cases hl
  · cases A with
    | none => cases hl
    | some ad =>
      rw [leads_slice] at hl
      split at hl
      · cases hl
      · injection hl with hl
        exact Or.inl ⟨ad, rfl, by omega, hl.symm⟩
  · cases A' with
    | none => cases hl
    | some ad =>
      rw [leads_slice] at hl
      split at hl
      · cases hl
      · injection hl with hl
        exact Or.inr ⟨ad, rfl, by omega, hl.symm⟩
theorem Tryz.r07SizeP : (Tryz.prog.info? 58).map (·.size) = some 2 := by kernel_rfl
set_option maxRecDepth 100000 in
set_option maxHeartbeats 16000000 in
theorem put12_any (p : Nat → Prop) (x : DC) (Ab : Option Addr) (nb cb : Nat) (Al : Option Addr) (nl cl : Nat) (Ak : Option Addr) (nk ck : Nat) (s : Cg) (Ad : Option Addr) (nd cd : Nat) (An : Option Addr) (nn cn : Nat) (w : World) (hp : ∀ q, w.heap.size ≤ q → p q) (h : DCQ p w x Ab nb cb Al nl cl Ak nk ck) (hs : CV w s Ad nd cd An nn cn) (hps : 0 < nd → ∀ ad, Ad = some ad → p ad.block) (_hnd : nd ≤ 300) (hnn : nn ≤ 20) (hok : x.Ok) (hlast : x.last ≤ 900) :
    Calls Tryz.prog 55 #[.agg #[.slice Ab nb cb, .slice Al nl cl, .int .i64 ((x).last : Int), .int .i64 (x).fuse, .bool (x).off, .int .i64 ((x).wrote : Int), .slice Ak nk ck], .agg #[.int .i64 s.id, .int .i64 s.block, .int .i64 s.p.at_, .slice Ad nd cd, .slice An nn cn]] w (RetDNE p w (x.put ⟨s.id, s.block, s.p, s.needs⟩) (x.putN ⟨s.id, s.block, s.p, s.needs⟩) (x.putE ⟨s.id, s.block, s.p, s.needs⟩)) := by
  have HQ := Lib.hid h
  have HP := Lib.hid hp
  have HS := Lib.hid hs
  have HPS := Lib.hid hps
  have HOk := Lib.hid hok
  have HR0 := Lib.hid (fun (hr : s.p.right = false) => DC.putE_right (x := x) (s := ⟨s.id, s.block, s.p, s.needs⟩) hr)
  have HR1 := Lib.hid (fun (hr : s.p.right = true) (hb : x.bad s.needs = true) => DC.putE_bad (x := x) (s := ⟨s.id, s.block, s.p, s.needs⟩) hr hb)
  have HR2 := Lib.hid (fun (hr : s.p.right = true) (hb : x.bad s.needs = false) => DC.putE_kn (x := x) (s := ⟨s.id, s.block, s.p, s.needs⟩) hr hb)
  have HBad := Lib.hid (fun (hr : x.putE ⟨s.id, s.block, s.p, s.needs⟩ ≠ 0) => DC.put_bad hr)
  have HPut := Lib.hid (show x.put ⟨s.id, s.block, s.p, s.needs⟩ = if x.putE ⟨s.id, s.block, s.p, s.needs⟩ = 0 then { x with knows := x.knows.set s.block.toNat true, last := x.last + 1, list := x.list ++ [⟨(x.last : Int) + 1, s.block, s.p, x.needsOf s.needs⟩] } else x from rfl)
  have HPutN := Lib.hid (show x.putN ⟨s.id, s.block, s.p, s.needs⟩ = if x.putE ⟨s.id, s.block, s.p, s.needs⟩ = 0 then (x.last : Int) + 1 else 0 from rfl)
  clear h hs hok hp hps
  go_enter Tryz.func55, Tryz.ntmps55
  go_wp2_with (refine wpList_box_row rfl _ _ rfl _ rfl ?_)
  apply Stop.go; intro w1 Hg1 Hb1
  go_wp2_with (refine wpList_box_row rfl _ _ rfl _ rfl ?_)
  apply Stop.go; intro w2 Hg2 Hb2
  go_wp2_with (refine wpList_alloc_row rfl _ rfl _ Tryz.dcZero ?_)
  apply Stop.go; intro w3 Hg3 Hb3
  have C3 := Lib.hid (Hb1.out.ext (bt Hg2.out.1 Hg3.out.1))
  have S3 := Lib.hid (Hb2.out.ext Hg3.out.1)
  have W3 := Lib.hid (bt (bt Hg1.out.1 Hg2.out.1) Hg3.out.1)
  have Z := Lib.hid (show w1.heap.size = w.heap.size + 1 ∧ w2.heap.size = w1.heap.size + 1 ∧ w3.heap.size = w2.heap.size + 1 from ⟨Hg1.out.2, Hg2.out.2, Hg3.out.2⟩)
  obtain ⟨g3, hg3⟩ : ∃ q, q = w1.heap.size := ⟨_, rfl⟩
  obtain ⟨g4, hg4⟩ : ∃ q, q = w2.heap.size := ⟨_, rfl⟩
  rw [← hg3] at S3 Z ⊢
  rw [← hg4] at Hb3 Z ⊢
  have Z3 := Lib.hid (show Blk w3 g4 32 #[.slice none 0 0, .slice none 0 0, .int .i64 0, .int .i64 0, .bool false, .int .i64 0, .slice none 0 0] from Hb3.out)
  clear hg3 hg4 Hg1 Hg2 Hg3 Hb1 Hb2 Hb3
  go_wp2_with (refine wpList_load_part rfl _ _ rfl g3 2 rfl [.int .i64 s.p.at_, .slice Ad nd cd] _ _ S3.out (fun j hj => by match j, hj with | 0, _ => rfl | 1, _ => rfl) _ Tryz.underlying58 rfl Tryz.r07SizeP _ rfl ?_)
  refine (right_any s.p Ad nd cd _ (HS.out.p.below W3.out)).mono ?_; rintro e w4 ⟨rfl, hb4⟩
  have C4 := Lib.hid (C3.out.ext hb4)
  have S4 := Lib.hid (S3.out.ext hb4)
  have Z4 := Lib.hid (Z3.out.ext hb4)
  have W4 := Lib.hid (bt W3.out hb4)
  have G4 := Lib.hid (show g4 < w4.heap.size from by have := hb4.size; have := Z.out; omega)
  clear hb4 C3 S3 Z3 W3
  obtain ⟨br, hbr⟩ : ∃ b, s.p.right = b := ⟨_, rfl⟩
  have HBR := Lib.hid hbr
  rw [hbr]
  clear hbr
  cases br
  · have HE := Lib.hid (HR0.out HBR.out)
    have HX := Lib.hid (HBad.out (by rw [HE.out]; decide))
    go_wp2_with (first | refine wpList_load_blk rfl _ _ rfl _ rfl _ _ C4.out _ Tryz.underlying32 rfl Tryz.dcSize ?_ | refine wpList_store_arr rfl _ _ _ rfl _ #[.slice Ab nb cb, .slice Al nl cl, .int .i64 ((x).last : Int), .int .i64 (x).fuse, .bool (x).off, .int .i64 ((x).wrote : Int), .slice Ak nk ck] rfl rfl _ _ Z4.out Tryz.dcSize rfl (by simp [Value.oneCell']) ?_); apply Stop.go; intro w5 Ho5 Hb5
    go_wp2_with ((with_reducible show bodyPost _ _ _ _ _ _); refine bodyPost_struct_tmp2 rfl _ rfl _ _ Hb5.out _ Tryz.underlying32 rfl Tryz.dcSize rfl _ rfl _ rfl ?_); apply Stop.go
    rw [HX.out.1, HX.out.2, HE.out]
    have hw5 := bonly W4.out Ho5.out (by have := Z.out; omega)
    exact ⟨_, _, _, _, _, _, _, _, _, rfl, HQ.out.below hw5, hw5⟩
  · go_wp2_with fail
    go_loopw [7] (fun i wr => ∃ k : Nat, k ≤ nn ∧ i = .int .i64 k ∧ (∃ m, wr = w4.drewN m) ∧ Hid (∀ j (hj : j < s.needs.length), j < k → ¬ (s.needs[j] < 1 ∨ (x.last : Int) < s.needs[j]))) (fun i _ => nn - (intOf i).toNat)
    case atStart => exact ⟨0, Nat.zero_le _, rfl, ⟨0, rfl⟩, Lib.hid (fun j _ hj => absurd hj (Nat.not_lt_zero _))⟩
    case round =>
      obtain ⟨k, hk, rfl, ⟨m, rfl⟩, HN⟩ := hrel
      have c4 := S4.out.five.2.2.2.2.1
      have c2 := C4.out.seven.2.2.1
      by_cases hlt : k < nn
      · have d0 : decide ((k : Int) < nn) = true := by simpa using hlt
        have z1 : (k : Int) < nn := by omega
        have hkn : k < s.needs.length := by rw [HS.out.len]; exact hlt
        obtain ⟨adn, hAn, kn⟩ := (HS.out.read.below W4.out).int k hkn
        subst hAn
        have HYes := Lib.hid (fun (h : s.needs[k] < 1 ∨ (x.last : Int) < s.needs[k]) => DC.bad_yes hkn h)
        have HNo := Lib.hid (fun (h : ¬ (s.needs[k] < 1 ∨ (x.last : Int) < s.needs[k])) => (show ∀ j (hj : j < s.needs.length), j < k + 1 → ¬ (s.needs[j] < 1 ∨ (x.last : Int) < s.needs[j]) from fun j hj hjk => by
          by_cases e : j = k
          · subst e; exact h
          · exact HN.out j hj (by omega)))
        clear HN
        generalize s.needs[k] = z at *
        clear hkn
        by_cases hz1 : z < 1
        · have d1 : decide (z < 1) = true := decide_eq_true hz1
          have HE := Lib.hid (HR1.out HBR.out (HYes.out (Or.inl hz1)))
          have HX := Lib.hid (HBad.out (by rw [HE.out]; decide))
          clear hz1
          go_wp2_with fail
          go_quiet (fail)
          obtain ⟨wd, hwd⟩ : ∃ q, (w4.drewN m).drewN nq = q := ⟨_, rfl⟩
          have BD := Lib.hid (show Below w4.heap.size w4 wd by rw [← hwd]; exact bt (bdrew w4 m) (bdrew _ nq))
          have CD := Lib.hid (C4.out.ext BD.out)
          have ZD := Lib.hid (Z4.out.ext BD.out)
          rw [hwd]
          clear hwd c4 c2 kn
          go_wp2_with (first | refine wpList_load_blk rfl _ _ rfl _ rfl _ _ CD.out _ Tryz.underlying32 rfl Tryz.dcSize ?_ | refine wpList_store_arr rfl _ _ _ rfl _ #[.slice Ab nb cb, .slice Al nl cl, .int .i64 ((x).last : Int), .int .i64 (x).fuse, .bool (x).off, .int .i64 ((x).wrote : Int), .slice Ak nk ck] rfl rfl _ _ ZD.out Tryz.dcSize rfl (by simp [Value.oneCell']) ?_); apply Stop.go; intro w5 Ho5 Hb5
          go_wp2_with ((with_reducible show bodyPost _ _ _ _ _ _); refine bodyPost_struct_tmp2 rfl _ rfl _ _ Hb5.out _ Tryz.underlying32 rfl Tryz.dcSize rfl _ rfl _ rfl ?_); apply Stop.go
          rw [HX.out.1, HX.out.2, HE.out]
          have hw5 := bonly (bt W4.out BD.out) Ho5.out (by have := Z.out; omega)
          exact ⟨_, _, _, _, _, _, _, _, _, rfl, HQ.out.below hw5, hw5⟩
        · have d1 : decide (z < 1) = false := decide_eq_false hz1
          by_cases hz2 : (x.last : Int) < z
          · have d2 : decide ((x.last : Int) < z) = true := decide_eq_true hz2
            have HE := Lib.hid (HR1.out HBR.out (HYes.out (Or.inr hz2)))
            have HX := Lib.hid (HBad.out (by rw [HE.out]; decide))
            clear hz1 hz2
            go_wp2_with fail
            go_quiet (fail)
            obtain ⟨wd, hwd⟩ : ∃ q, (w4.drewN m).drewN nq = q := ⟨_, rfl⟩
            have BD := Lib.hid (show Below w4.heap.size w4 wd by rw [← hwd]; exact bt (bdrew w4 m) (bdrew _ nq))
            have CD := Lib.hid (C4.out.ext BD.out)
            have ZD := Lib.hid (Z4.out.ext BD.out)
            rw [hwd]
            clear hwd c4 c2 kn
            go_wp2_with (first | refine wpList_load_blk rfl _ _ rfl _ rfl _ _ CD.out _ Tryz.underlying32 rfl Tryz.dcSize ?_ | refine wpList_store_arr rfl _ _ _ rfl _ #[.slice Ab nb cb, .slice Al nl cl, .int .i64 ((x).last : Int), .int .i64 (x).fuse, .bool (x).off, .int .i64 ((x).wrote : Int), .slice Ak nk ck] rfl rfl _ _ ZD.out Tryz.dcSize rfl (by simp [Value.oneCell']) ?_); apply Stop.go; intro w5 Ho5 Hb5
            go_wp2_with ((with_reducible show bodyPost _ _ _ _ _ _); refine bodyPost_struct_tmp2 rfl _ rfl _ _ Hb5.out _ Tryz.underlying32 rfl Tryz.dcSize rfl _ rfl _ rfl ?_); apply Stop.go
            rw [HX.out.1, HX.out.2, HE.out]
            have hw5 := bonly (bt W4.out BD.out) Ho5.out (by have := Z.out; omega)
            exact ⟨_, _, _, _, _, _, _, _, _, rfl, HQ.out.below hw5, hw5⟩
          · have d2 : decide ((x.last : Int) < z) = false := decide_eq_false hz2
            have HN2 := Lib.hid (HNo.out (fun h => h.elim hz1 hz2))
            clear hz1 hz2
            go_wp2_with fail
            go_quiet (fail)
            go_wp2_with fail
            go_roundw
            case rel => exact ⟨k + 1, by omega, by go_num, ⟨m + nq, by first | rfl | simp only [World.drewN_drewN]⟩, HN2⟩
            case measure => simp [intOf]; omega
      · have d0 : decide ((k : Int) < nn) = false := by simpa using hlt
        have HB0 := Lib.hid (DC.bad_not (x := x) (needs := s.needs) (fun j hj => HN.out j hj (by have := HS.out.len; omega)))
        have HE := Lib.hid (HR2.out HBR.out HB0.out)
        rw [HE.out] at HBad HPut HPutN
        clear HN HR0 HR1 HR2 HB0
        go_wp2_with fail
        obtain ⟨w5, hw5⟩ : ∃ q, w4.drewN m = q := ⟨_, rfl⟩
        have BD := Lib.hid (show Below w4.heap.size w4 w5 by rw [← hw5]; exact bdrew w4 m)
        rw [hw5]
        have C5 := Lib.hid (C4.out.ext BD.out)
        have S5 := Lib.hid (S4.out.ext BD.out)
        have Z5 := Lib.hid (Z4.out.ext BD.out)
        have W5 := Lib.hid (bt W4.out BD.out)
        have G5 := Lib.hid (show g4 < w5.heap.size from Nat.lt_of_lt_of_le G4.out BD.out.size)
        clear hw5 BD C4 S4 Z4 W4 G4 c2 c4 hlt d0
        go_loopw [8, 9] (fun o i wr => ∃ k : Nat, k ≤ x.last ∧ i = .int .i64 ((k : Int) + 1) ∧ OwnC wr w5.heap.size 3 o (ivals (x.needsTo s.needs k)) ∧ Below w5.heap.size w5 wr) (fun _ i _ => x.last + 1 - (intOf i).toNat)
        case atStart => exact ⟨0, Nat.zero_le _, rfl, OwnC.nil_ _ _ _, Below.refl _ _⟩
        case round =>
          obtain ⟨m, hm, rfl, hu, hbw⟩ := hrel
          have U := Lib.hid hu
          have BW := Lib.hid hbw
          clear hu hbw
          have c2 := (C5.out.ext BW.out).seven.2.2.1
          have c4 := (S5.out.ext BW.out).five.2.2.2.2.1
          by_cases hml : m < x.last
          · have d0 : decide ((m : Int) + 1 ≤ (x.last : Int)) = true := decide_eq_true (by omega)
            obtain ⟨b1, hb1⟩ : ∃ b, s.needs.contains ((m : Int) + 1) = b := ⟨_, rfl⟩
            obtain ⟨b2, hb2⟩ : ∃ b, x.done ((m : Int) + 1) = b := ⟨_, rfl⟩
            have HT := Lib.hid (DC.needsTo_succ x s.needs m)
            rw [hb1, hb2] at HT
            have HB1 := Lib.hid hb1
            have HB2 := Lib.hid hb2
            have HLen := Lib.hid (DC.needsTo_len x s.needs m)
            have HML := Lib.hid hml
            have HD := fun (w' : World) (hb : Below w.heap.size w w') => done12_any x Ab nb cb Al nl cl Ak nk ck ((m : Int) + 1) w' (HQ.out.v.below hb)
            rw [hb2] at HD
            have HD := Lib.hid HD
            clear hb1 hb2 hml
            generalize x.needsTo s.needs m = L at *
            obtain ⟨z, hz⟩ : ∃ z : Int, (m : Int) + 1 = z := ⟨_, rfl⟩
            have HZ := Lib.hid hz
            have qz : IntKind.i64.wrap (z + 1) = z + 1 := by rw [IntKind.wrap_i64]; omega
            rw [hz] at d0 HB1 HT HD ⊢
            clear hz
            go_wp2_with fail
            refine (rin9_is An nn cn s.needs HS.out.len (by unfold maxLen; omega) z b1 HB1.out _ (HS.out.read.below (bt W5.out BW.out))).mono ?_; rintro e wx ⟨rfl, rfl⟩
            cases b1
            · have HT2 : Hid (x.needsTo s.needs (m + 1) = L) := Lib.hid (by rw [HT.out]; simp)
              go_wp2_with fail
              go_roundw
              case rel => exact ⟨m + 1, HML.out, congrArg (Value.int .i64) (by have := HZ.out; omega), by rw [HT2.out]; exact U.out, BW.out⟩
              case measure => have := HML.out; have := HZ.out; simp [intOf]; omega
            · go_wp2_with (refine wpList_load_blk rfl _ _ rfl _ rfl _ _ (C5.out.ext BW.out) _ Tryz.underlying32 rfl Tryz.dcSize ?_)
              refine (HD.out _ (bt W5.out BW.out)).mono ?_; rintro e w6 ⟨rfl, hb6⟩
              have B6 := Lib.hid (bt BW.out hb6)
              have U6 := Lib.hid (OwnC.ext U.out hb6)
              clear hb6 c2 c4 HD U BW
              cases b2
              · have HT2 : Hid (x.needsTo s.needs (m + 1) = L ++ [z]) := Lib.hid (by rw [HT.out]; simp)
                have hl1 : (ivals L).length + 1 ≤ maxLen := by rw [ivals_len]; have := HLen.out; have := HML.out; unfold maxLen; omega
                have hl2 : ((ivals L).length + 1) * 8 ≤ 140737488355328 := by rw [ivals_len]; have := HLen.out; have := HML.out; omega
                go_wp2_with (at_builtin; refine wpList_append_one rfl _ _ _ _ rfl Tryz.underlying59 (.int .i64 0) 8 Tryz.infoInt rfl w5.heap.size _ _ rfl U6.out (.int .i64 z) rfl rfl B6.out.size hl1 hl2 ?_)
                apply Stop.go
                intro v' w7 Hv' Ha'
                have D7 := Lib.hid (B6.out.trans Ha'.out.below)
                go_wp2_with fail
                go_roundw
                case rel => exact ⟨m + 1, HML.out, congrArg (Value.int .i64) (by have := HZ.out; omega), by rw [HT2.out, ← ivals_snoc]; exact Hv'.out, D7.out⟩
                case measure => have := HML.out; have := HZ.out; simp [intOf]; omega
              · have HT2 : Hid (x.needsTo s.needs (m + 1) = L) := Lib.hid (by rw [HT.out]; simp)
                go_wp2_with fail
                go_roundw
                case rel => exact ⟨m + 1, HML.out, congrArg (Value.int .i64) (by have := HZ.out; omega), by rw [HT2.out]; exact U6.out, B6.out⟩
                case measure => have := HML.out; have := HZ.out; simp [intOf]; omega
          · have d0 : decide ((m : Int) + 1 ≤ (x.last : Int)) = false := decide_eq_false (by omega)
            obtain rfl : m = x.last := by omega
            rw [DC.needsTo_all] at U
            have HNL := Lib.hid (x.needsOf_len s.needs)
            clear hml
            obtain ⟨Ai, ci, rfl, qi, mi, ri⟩ := U.out.ints
            obtain ⟨ni, hni⟩ : ∃ ni, (x.needsOf s.needs).length = ni := ⟨_, rfl⟩
            rw [hni] at U HNL qi ⊢
            have HNI := Lib.hid hni
            have RI := Lib.hid ri
            have QO := Lib.hid (show ∀ ad, Ai = some ad → w5.heap.size ≤ ad.block ∧ ad.block < wr.heap.size from fun ad e => by subst e; exact World.ownsRow.lt U.out ad.block rfl)
            have QW := Lib.hid (show g4 < w5.heap.size ∧ w5.heap.size ≤ wr.heap.size from ⟨G5.out, BW.out.size⟩)
            have QI := Lib.hid (And.intro qi mi)
            clear hni ri qi mi
            have KP := Lib.hid (x.known_parts s.block)
            have CK := fun (w' : World) (hb : Below w.heap.size w w') (hg : g4 < w'.heap.size) => known12_any (fun q => p q ∧ q ≠ g4) x Ab nb cb Al nl cl Ak nk ck s.block w' (fun q hq => ⟨HP.out q (by have := hb.size; omega), by omega⟩) ((HQ.out.mono (fun q hq h => ⟨h, by have := Z.out; omega⟩)).below hb)
            obtain ⟨y, hy⟩ : ∃ y, x.known s.block = y := ⟨_, rfl⟩
            obtain ⟨E, hE⟩ : ∃ E, x.knownE s.block = E := ⟨_, rfl⟩
            rw [hy, hE] at CK KP
            rw [hE] at HE HBad HPut HPutN
            have CK := Lib.hid CK
            have C6 := Lib.hid (C5.out.ext BW.out)
            have S6 := Lib.hid (S5.out.ext BW.out)
            have Z6 := Lib.hid (Z5.out.ext BW.out)
            have W6 := Lib.hid (bt W5.out BW.out)
            have G6 := Lib.hid (show g4 < wr.heap.size from Nat.lt_of_lt_of_le G5.out BW.out.size)
            have c1 := S6.out.five.2.1
            clear hy hE C5 S5 Z5 W5 G5 BW c4
            go_wp2_with (refine wpList_load_blk rfl _ _ rfl _ rfl _ _ C6.out _ Tryz.underlying32 rfl Tryz.dcSize ?_)
            refine (CK.out _ W6.out G6.out).mono ?_; rintro e w7 ⟨Ab1, nb1, cb1, Al1, nl1, cl1, Ak1, nk1, ck1, rfl, hv7, hb7⟩
            have e := KP.out
            rw [e.2.2.1, e.2.2.2.1, e.2.2.2.2.1, e.2.2.2.2.2.1]
            clear e
            have C7 := Lib.hid (C6.out.ext hb7)
            have S7 := Lib.hid (S6.out.ext hb7)
            have Z7 := Lib.hid (Z6.out.ext hb7)
            have W7 := Lib.hid (bt W6.out hb7)
            have B7 := Lib.hid hb7
            obtain ⟨pq, hpq⟩ : ∃ pq : Nat → Prop, (fun q => p q ∧ q ≠ g4 ∧ q ≠ w7.heap.size) = pq := ⟨_, rfl⟩
            have HPQ := Lib.hid (show ∀ q, pq q ↔ (p q ∧ q ≠ g4 ∧ q ≠ w7.heap.size) from fun q => by rw [← hpq])
            have V7 := Lib.hid (hv7.mono (p' := pq) (fun q hq h => (HPQ.out q).2 ⟨h.1, h.2, by omega⟩))
            clear hv7 hb7 hpq C6 S6 Z6 W6 c1 c2
            go_wp2_with (refine wpList_alloc_row rfl _ rfl _ Tryz.dcZero ?_)
            apply Stop.go; intro w8 Hg8 Hb8
            have G8 := Lib.hid (show w8.heap.size = w7.heap.size + 1 from Hg8.out.2)
            have B8 := Lib.hid Hg8.out.1
            obtain ⟨gt, hgt⟩ : ∃ q, q = w7.heap.size := ⟨_, rfl⟩
            rw [← hgt] at Hb8 HPQ G8 ⊢
            clear Hg8
            have GT := Lib.hid (show g4 < gt ∧ gt = w7.heap.size from ⟨by have := G6.out; have := B7.out.size; omega, hgt⟩)
            clear hgt
            go_wp2_with (refine wpList_store_arr rfl _ _ _ rfl _ #[.slice Ab1 nb1 cb1, .slice Al1 nl1 cl1, .int .i64 (x.last : Int), .int .i64 x.fuse, .bool x.off, .int .i64 (x.wrote : Int), .slice Ak1 nk1 ck1] rfl rfl _ _ Hb8.out Tryz.dcSize rfl (by simp [Value.oneCell']) ?_)
            apply Stop.go; intro w9 Ho9 Hb9
            have G9 := Lib.hid (show gt < w9.heap.size from by rw [Ho9.out.size]; have := G8.out; have := GT.out; omega)
            have B9 := Lib.hid (bonly (bt (Below.refl _ w7) B8.out) Ho9.out (by have := GT.out; omega))
            have S9 := Lib.hid (S7.out.ext B9.out)
            have Z9 := Lib.hid (Z7.out.ext B9.out)
            have C9 := Lib.hid (C7.out.ext B9.out)
            have W9 := Lib.hid (bt W7.out B9.out)
            have V9 := Lib.hid (V7.out.below B9.out)
            have RI9 := Lib.hid (RI.out.below (bt B7.out B9.out))
            clear Ho9 Hb8 S7 Z7 C7 V7 RI
            by_cases hE0 : E = 0
            rotate_left
            · have d1 : (E == 0) = false := by simpa using hE0
              have HX := Lib.hid (HBad.out hE0)
              clear hE0
              go_wp2_with (first | refine wpList_load_blk rfl _ _ rfl _ rfl _ _ C9.out _ Tryz.underlying32 rfl Tryz.dcSize ?_ | refine wpList_store_arr rfl _ _ _ rfl _ #[.slice Ab nb cb, .slice Al nl cl, .int .i64 ((x).last : Int), .int .i64 (x).fuse, .bool (x).off, .int .i64 ((x).wrote : Int), .slice Ak nk ck] rfl rfl _ _ Z9.out Tryz.dcSize rfl (by simp [Value.oneCell']) ?_); apply Stop.go; intro wa Hoa Hba
              go_wp2_with ((with_reducible show bodyPost _ _ _ _ _ _); refine bodyPost_struct_tmp2 rfl _ rfl _ _ Hba.out _ Tryz.underlying32 rfl Tryz.dcSize rfl _ rfl _ rfl ?_); apply Stop.go
              rw [HX.out.1, HX.out.2, HE.out]
              have hwa := bonly W9.out Hoa.out (by have := Z.out; omega)
              exact ⟨_, _, _, _, _, _, _, _, _, rfl, HQ.out.below hwa, hwa⟩
            · have d1 : (E == 0) = true := by simp [hE0]
              rw [if_pos hE0] at HPut HPutN
              have HKN := Lib.hid (KP.out.2.2.2.2.2.2 hE0)
              have HE0 := Lib.hid (HE.out.trans hE0)
              subst hE0
              obtain ⟨N, hN⟩ : ∃ N : Int, ((x.last + 1 : Nat) : Int) = N := ⟨_, rfl⟩
              have HN := Lib.hid hN
              have hN2 : (x.last : Int) + 1 = N := by omega
              rw [hN2] at HPut HPutN
              clear hN2
              have qn : IntKind.i64.wrap ((x.last : Int) + 1) = N := by rw [IntKind.wrap_i64]; omega
              clear hN
              have c2 := Hb9.out.seven.2.2.1
              go_wp2_with (refine wpList_store_cell rfl _ _ _ rfl Tryz.dcIntSzP gt 2 rfl (.int .i64 N) rfl rfl rfl _ _ Hb9.out (by show 2 < 7; omega) ?_)
              apply Stop.go; intro wa Hoa Hba
              have T := Lib.hid (show Blk wa gt 32 #[.slice Ab1 nb1 cb1, .slice Al1 nl1 cl1, .int .i64 N, .int .i64 x.fuse, .bool x.off, .int .i64 (x.wrote : Int), .slice Ak1 nk1 ck1] from Hba.out)
              have Sa := Lib.hid (S9.out.only Hoa.out (by have := GT.out; have := Z.out; omega))
              have Za := Lib.hid (Z9.out.only Hoa.out (by have := GT.out; omega))
              have Ba := Lib.hid (bonly B9.out Hoa.out (by have := GT.out; omega))
              have Wa := Lib.hid (bonly W9.out Hoa.out (by have := GT.out; have := Z.out; omega))
              have Va := Lib.hid (V9.out.only Hoa.out (fun h => ((HPQ.out _).1 h).2.2 rfl))
              have RIa := Lib.hid (RC.same RI9.out (fun _ ad e => Hoa.out.block _ (by have h1 := QO.out ad e; have h2 := GT.out; have h3 := B7.out.size; omega)))
              have Ga := Lib.hid (show gt < wa.heap.size from by rw [Hoa.out.size]; exact G9.out)
              clear Hoa Hba Hb9 C9 S9 Z9 V9 RI9 B9 W9 B8 c2 d1
              go_wp2_with fail
              refine WT.start 15 (S := fun w' : World => Blk w' gt 32 #[.slice Ab1 nb1 cb1, .slice Al1 nl1 cl1, .int .i64 N, .int .i64 x.fuse, .bool x.off, .int .i64 (x.wrote : Int), .slice Ak1 nk1 ck1] ∧ Blk w' g3 61 #[.int .i64 s.id, .int .i64 s.block, .int .i64 s.p.at_, .slice Ad nd cd, .slice An nn cn]) [false, false, false, false, false, false, false, false, false, false, false, false, false, false, false, false] 16 rfl rfl (by kernel_rfl) ⟨T.out.ext (bdrew wa 1), Sa.out.ext (bdrew wa 1)⟩ (fun hSn => ?_)
              obtain ⟨wS, hwS⟩ : ∃ q, wa.drew = q := ⟨_, rfl⟩
              have BS := Lib.hid (show Below wa.heap.size wa wS by rw [← hwS]; exact bdrew wa 1)
              rw [hwS] at hSn ⊢
              clear hwS
              refine WT.tk 1 ?_; simp only [setL]
              refine WT.tv 2 rfl (fun w' hSw => exec_load_cell _ _ rfl _ rfl (.slice Al1 nl1 cl1) hSw.1.seven.2.1 _ Tryz.underlying29 rfl) ?_; simp only [setL]
              refine WT.tk 4 ?_; simp only [setL]
              refine WT.tv 5 rfl (fun w' hSw => exec_load_cell _ _ rfl _ rfl (.int .i64 N) hSw.1.seven.2.2.1 _ Tryz.underlying3 rfl) ?_; simp only [setL]
              refine WT.tk 6 ?_; simp only [setL]
              refine WT.tv 7 rfl (fun w' hSw => exec_load_cell _ _ rfl _ rfl (.int .i64 s.block) hSw.2.five.2.1 _ Tryz.underlying3 rfl) ?_; simp only [setL]
              refine WT.tk 8 ?_; simp only [setL]
              refine WT.tv 9 rfl (fun w' hSw => exec_load_pair _ _ rfl ⟨g3, 2, none⟩ rfl (.int .i64 s.p.at_) (.slice Ad nd cd) hSw.2.five.2.2.1 hSw.2.five.2.2.2.2.2 _ Tryz.underlying58 Tryz.r07SizeP) ?_; simp only [setL]
              refine WT.tk 10 ?_; simp only [setL]
              refine WT.tk 11 ?_; simp only [setL]
              have LY := Lib.hid (Va.out.lp.below BS.out)
              have LN := Lib.hid (show y.list.length = nl1 ∧ nl1 ≤ 900 from ⟨Va.out.v.hnl, by have h1 := Va.out.v.hnl; have h2 := HOk.out.wrote; rw [KP.out.2.1] at h1; omega⟩)
              obtain ⟨cN, hcN⟩ : ∃ c : Cg, (⟨N, s.block, s.p, x.needsOf s.needs⟩ : Cg) = c := ⟨_, rfl⟩
              rw [hcN] at HPut
              have CN := Lib.hid (show CV wS cN Ad nd cd Ai ni ci from by
                rw [← hcN]
                refine ⟨by have := HN.out; show -9223372036854775808 ≤ N; omega, by have := HN.out; show N < 9223372036854775808; omega, HS.out.lo1, HS.out.hi1, HS.out.p.below (bt Wa.out BS.out), HNI.out, QI.out.1, QI.out.2, RIa.out.below BS.out, fun z hz => ?_⟩
                have h1 := (DC.needsOf_mem.1 hz).1
                omega)
              have RN1 := Lib.hid (show RdC.R wS [.int .i64 N, .int .i64 s.block, .int .i64 s.p.at_, .slice Ad nd cd, .slice Ai ni ci] cN from by subst hcN; exact CN.out.rd)
              have RN2 := Lib.hid (show ∀ q ∈ blocksOf [Value.int .i64 N, .int .i64 s.block, .int .i64 s.p.at_, .slice Ad nd cd, .slice Ai ni ci], pq q from fun q hq => by
                have hlt : g3 < w5.heap.size ∧ w.heap.size < g4 ∧ w7.heap.size = gt ∧ wr.heap.size ≤ w7.heap.size := ⟨by have := QW.out; have := Z.out; omega, by have := Z.out; omega, GT.out.2.symm, B7.out.size⟩
                rcases blocks_new hq with ⟨ad, e, h0, rfl⟩ | ⟨ad, e, h0, rfl⟩
                · have h1 : ad.block < w.heap.size := by
                    subst e
                    exact HS.out.p.lt (by rw [HS.out.p.len]; exact h0)
                  have h2 := QW.out
                  exact (HPQ.out _).2 ⟨HPS.out h0 ad e, by omega, by omega⟩
                · have h1 := QO.out ad e
                  have h2 := QW.out
                  exact (HPQ.out _).2 ⟨HP.out _ (by omega), by omega, by omega⟩)
              have GS := Lib.hid (show gt < wS.heap.size ∧ g3 < wS.heap.size ∧ g4 < wS.heap.size from by have h1 := Ga.out; have h2 := BS.out.size; have h3 := GT.out; have h4 := Z.out; omega)
              clear hcN
              refine WT.two 0 12 _ _ rfl rfl (by kernel_rfl) rfl rfl (fun K hK => ?_) (fun K hK => ?_)
              focus (
                refine ow_build0N _ _ rfl Tryz.underlying29 5 Tryz.rchgSize ?_
                apply Stop.go; intro wb Hgb Hbb
                have hSn := And.intro (hSn.1.ext Hgb.out.1) (hSn.2.ext Hgb.out.1); refine hK _ _ hSn ?_; clear hK; clear K; simp only [setL]
                refine WT.two 3 12 _ _ rfl rfl (by kernel_rfl) rfl rfl (fun K hK => ?_) (fun K hK => ?_)
                focus (
                  refine ow_append_copyG (RdP RdC pq) (RdP.one RdC.one) _ _ _ _ rfl Tryz.underlying29 5 72 _ Tryz.rchgInfo rfl (by decide) wS.heap.size rfl Hbb.out wS _ nl1 cl1 y.list rfl LN.out.1 LY.out Hgb.out.1 (Nat.le_refl _) (by have := LN.out.2; omega) (by have := LN.out.2; omega) ?_
                  apply Stop.go
                  intro vL wc HL HG
                  have hSn := And.intro (hSn.1.below HG.out.1 GS.out.1) (hSn.2.below HG.out.1 GS.out.2.1); refine hK _ _ hSn ?_; clear hK; clear K; simp only [setL]
                  refine WT.only 12 _ rfl (by kernel_rfl) rfl (fun K hK => ?_)
                  refine ow_build_row _ _ _ rfl Tryz.underlying29 5 72 _ Tryz.rchgInfo (by decide) (by decide) #[.int .i64 N, .int .i64 s.block, .int .i64 s.p.at_, .slice Ad nd cd, .slice Ai ni ci] rfl rfl ?_
                  apply Stop.go; intro wm Hgd Hbd
                  have hSn := And.intro (hSn.1.ext Hgd.out.1) (hSn.2.ext Hgd.out.1); refine hK _ _ hSn ?_; clear hK; clear K; simp only [setL]
                  have ML := Lib.hid (HL.out.ext Hgd.out.1)
                  have MB := Lib.hid ((Hgb.out.1.trans HG.out.1).trans (Hgd.out.1.mono (Nat.le_trans Hgb.out.1.size HG.out.1.size)))
                  have MN := Lib.hid Hbd.out
                  clear HL HG Hgd Hbd Hgb Hbb
                  obtain ⟨gN, hgN⟩ : ∃ q, q = wc.heap.size := ⟨_, rfl⟩
                  rw [← hgN] at MN ⊢
                  clear hgN)
                rotate_left
                focus (
                  refine ow_build_row _ _ _ rfl Tryz.underlying29 5 72 _ Tryz.rchgInfo (by decide) (by decide) #[.int .i64 N, .int .i64 s.block, .int .i64 s.p.at_, .slice Ad nd cd, .slice Ai ni ci] rfl rfl ?_
                  apply Stop.go; intro wc Hgc Hbc
                  have hSn := And.intro (hSn.1.ext Hgc.out.1) (hSn.2.ext Hgc.out.1); refine hK _ _ hSn ?_; clear hK; clear K; simp only [setL]
                  refine WT.only 3 _ rfl (by kernel_rfl) rfl (fun K hK => ?_)
                  refine ow_append_copyG (RdP RdC pq) (RdP.one RdC.one) _ _ _ _ rfl Tryz.underlying29 5 72 _ Tryz.rchgInfo rfl (by decide) wS.heap.size rfl (Hbb.out.ext Hgc.out.1) wS _ nl1 cl1 y.list rfl LN.out.1 LY.out (bt Hgb.out.1 Hgc.out.1) (Nat.le_refl _) (by have := LN.out.2; omega) (by have := LN.out.2; omega) ?_
                  apply Stop.go
                  intro vL wm HL HG
                  have hSn := And.intro (hSn.1.below HG.out.1 GS.out.1) (hSn.2.below HG.out.1 GS.out.2.1); refine hK _ _ hSn ?_; clear hK; clear K; simp only [setL]
                  have ML := Lib.hid HL.out
                  have MB := Lib.hid ((bt Hgb.out.1 Hgc.out.1).trans HG.out.1)
                  have MN := Lib.hid (Hbc.out.grown HG.out.2 (fun e => by injection e with e; have := Hgb.out.2; omega))
                  clear HL HG Hgc Hbc Hgb Hbb
                  obtain ⟨gN, hgN⟩ : ∃ q, q = wb.heap.size := ⟨_, rfl⟩
                  rw [← hgN] at MN ⊢
                  clear hgN))
              rotate_left 2
              focus (
                refine ow_build_row _ _ _ rfl Tryz.underlying29 5 72 _ Tryz.rchgInfo (by decide) (by decide) #[.int .i64 N, .int .i64 s.block, .int .i64 s.p.at_, .slice Ad nd cd, .slice Ai ni ci] rfl rfl ?_
                apply Stop.go; intro wb Hgb Hbb
                have hSn := And.intro (hSn.1.ext Hgb.out.1) (hSn.2.ext Hgb.out.1); refine hK _ _ hSn ?_; clear hK; clear K; simp only [setL]
                refine WT.only 0 _ rfl (by kernel_rfl) rfl (fun K hK => ?_)
                refine ow_build0N _ _ rfl Tryz.underlying29 5 Tryz.rchgSize ?_
                apply Stop.go; intro wc Hgc Hbc
                have hSn := And.intro (hSn.1.ext Hgc.out.1) (hSn.2.ext Hgc.out.1); refine hK _ _ hSn ?_; clear hK; clear K; simp only [setL]
                refine WT.only 3 _ rfl (by kernel_rfl) rfl (fun K hK => ?_)
                refine ow_append_copyG (RdP RdC pq) (RdP.one RdC.one) _ _ _ _ rfl Tryz.underlying29 5 72 _ Tryz.rchgInfo rfl (by decide) wb.heap.size rfl Hbc.out wS _ nl1 cl1 y.list rfl LN.out.1 LY.out (bt Hgb.out.1 Hgc.out.1) Hgb.out.1.size (by have := LN.out.2; omega) (by have := LN.out.2; omega) ?_
                apply Stop.go
                intro vL wm HL HG
                have HG1 := Lib.hid (HG.out.1.mono Hgb.out.1.size)
                have hSn := And.intro (hSn.1.below HG1.out GS.out.1) (hSn.2.below HG1.out GS.out.2.1); refine hK _ _ hSn ?_; clear hK; clear K; simp only [setL]
                have ML := Lib.hid (HL.out.low Hgb.out.1.size)
                have MB := Lib.hid ((bt Hgb.out.1 Hgc.out.1).trans HG1.out)
                have MN := Lib.hid (((Hbb.out.ext Hgc.out.1)).below HG.out.1 (by have := Hgb.out.2; omega))
                clear HL HG HG1 Hgc Hbc Hgb Hbb
                obtain ⟨gN, hgN⟩ : ∃ q, q = wS.heap.size := ⟨_, rfl⟩
                rw [← hgN] at MN ⊢
                clear hgN)
              all_goals
                refine WT.only 13 _ rfl (by kernel_rfl) rfl (fun K hK => ?_)
                refine ow_append_L (RdP RdC pq) _ _ _ _ rfl Tryz.underlying29 5 72 _ Tryz.rchgInfo rfl (by decide) wS.heap.size vL y.list rfl ML.out gN _ rfl MN.out rfl (by simp [Value.oneCell']) cN ⟨RdC.below RN1.out MB.out, RN2.out⟩ (fun q hq e => by have h1 := (ML.out.lt2 q e).1; have h2 := RdC.there RN1.out q hq; omega) MB.out.size (by have := LN.out; omega) (by have := LN.out; omega) ?_
                rw [LN.out.1]
                apply Stop.go
                intro gL capL wL HL HbL HgL HwL
                have hSn := And.intro (hSn.1.below HbL.out GS.out.1) (hSn.2.below HbL.out GS.out.2.1); refine hK _ _ hSn ?_; clear hK; clear K; simp only [setL]
                refine WT.tk 14 ?_; simp only [setL]
                have ZB := Lib.hid ((Za.out.ext BS.out).below (MB.out.trans HbL.out) GS.out.2.2)
                have WB := Lib.hid (bt Wa.out (bt BS.out (MB.out.trans HbL.out)))
                have VB := Lib.hid ((Va.out.below BS.out).below (MB.out.trans HbL.out))
                have OL := Lib.hid HL.out
                have LB := Lib.hid (show wS.heap.size ≤ gL from (HL.out.lt2 gL rfl).1)
                clear HL HbL HgL HwL ML MN MB
                refine WT.last _ rfl (by kernel_rfl) rfl (fun K hK => ?_)
                refine ow_store_cell _ _ _ rfl Tryz.dcListSzP gt 1 rfl (.slice (some ⟨gL, 0, none⟩) (nl1 + 1) capL) rfl rfl rfl _ _ hSn.1 (by show 1 < 7; omega) ?_
                apply Stop.go; intro we Hoe Hbe
                refine hK _ _ ?_; clear hK; clear K; simp only [setL]; refine WT.done (by kernel_rfl) ?_
                have Te := Lib.hid (show Blk we gt 32 #[.slice Ab1 nb1 cb1, .slice (some ⟨gL, 0, none⟩) (nl1 + 1) capL, .int .i64 N, .int .i64 x.fuse, .bool x.off, .int .i64 (x.wrote : Int), .slice Ak1 nk1 ck1] from Hbe.out)
                have Ze := Lib.hid (ZB.out.only Hoe.out (by have := GT.out; omega))
                have We := Lib.hid (bonly WB.out Hoe.out (by have := GT.out; have := Z.out; omega))
                have Ve := Lib.hid (VB.out.only Hoe.out (fun h => ((HPQ.out _).1 h).2.2 rfl))
                have Oe := Lib.hid (OL.out.onlyP Hoe.out (fun q e => by have h1 := (OL.out.lt2 q e).1; have h2 := GS.out; omega) (fun q hq => ((HPQ.out _).1 hq).2.2))
                clear Hoe Hbe ZB WB VB OL hSn T Sa Za Wa Va RIa BS
                go_wp2_with fail
                refine WH.start (S := fun w' : World => Blk w' gt 32 #[.slice Ab1 nb1 cb1, .slice (some ⟨gL, 0, none⟩) (nl1 + 1) capL, .int .i64 N, .int .i64 x.fuse, .bool x.off, .int .i64 (x.wrote : Int), .slice Ak1 nk1 ck1]) [false, false, false, false, false, false] 6 rfl rfl (by kernel_rfl) (Te.out.ext (bdrew we 1)) (fun hSn => ?_)
                obtain ⟨wf, hwf⟩ : ∃ q, we.drew = q := ⟨_, rfl⟩
                have Bf := Lib.hid (show Below we.heap.size we wf by rw [← hwf]; exact bdrew we 1)
                rw [hwf] at hSn ⊢
                clear hwf
                refine WH.tv 0 rfl (fun w' hSw => exec_load_blk _ _ rfl _ rfl _ _ (hSw) _ (Tryz.underlying32) rfl (Tryz.dcSize)) ?_; simp only [setL]
                refine WH.tk 1 ?_; simp only [setL]
                refine WH.tv 2 rfl (fun w' hSw => exec_load_cell _ _ rfl _ rfl (.int .i64 N) hSw.seven.2.2.1 _ Tryz.underlying3 rfl) ?_; simp only [setL]
                refine WH.only 3 _ rfl (by kernel_rfl) rfl (fun K hK => ?_)
                refine ow_store _ _ _ rfl _ #[.slice Ab1 nb1 cb1, .slice (some ⟨gL, 0, none⟩) (nl1 + 1) capL, .int .i64 N, .int .i64 x.fuse, .bool x.off, .int .i64 (x.wrote : Int), .slice Ak1 nk1 ck1] rfl rfl _ _ (Ze.out.ext Bf.out) Tryz.dcSize rfl (by simp [Value.oneCell']) ?_
                apply Stop.go; intro wg Hog Hbg
                have hSn := hSn.only Hog.out (by have := GT.out; omega); refine hK _ _ hSn ?_; clear hK; clear K; simp only [setL]
                refine WH.tk 4 ?_; simp only [setL]
                refine WH.tk 5 ?_; simp only [setL]
                refine WH.done (by kernel_rfl) ?_
                go_wp2_with ((with_reducible show bodyPost _ _ _ _ _ _); refine bodyPost_struct_tmp2 rfl _ rfl _ _ Hbg.out _ Tryz.underlying32 rfl Tryz.dcSize rfl _ rfl _ rfl ?_); apply Stop.go
                have hwg := bonly (bt We.out Bf.out) Hog.out (by have := Z.out; omega)
                have Vg := (Ve.out.below Bf.out).only Hog.out (fun h => ((HPQ.out _).1 h).2.1 rfl)
                have Og := (Oe.out.ext Bf.out).onlyP Hog.out (fun q e => by have h1 := (Oe.out.lt2 q e).1; have h2 := GS.out; omega) (fun q hq => ((HPQ.out _).1 hq).2.1)
                have Lg := Og.reads
                rw [HPut.out, HPutN.out, HE0.out]
                have eb := KP.out.1
                have el := KP.out.2.1
                have hN := HN.out
                subst hN
                have PP : ∀ q, q < wg.heap.size → pq q → p q := fun q _ h => ((HPQ.out _).1 h).1
                refine ⟨_, _, _, _, _, _, _, _, _, rfl, ⟨⟨by rw [← eb]; exact Vg.v.hnb, Vg.v.hcb, Vg.v.hmb, by rw [← eb]; exact Vg.v.base, by show (x.list ++ [cN]).length = _; rw [← el]; exact Lg.1, Lg.2.1, by have := LN.out; omega, by show RdL RdC wg _ 5 (x.list ++ [cN]); rw [← el]; exact Lg.2.2.2.ofP, by rw [← HKN.out]; exact Vg.v.hnk, Vg.v.hck, Vg.v.hmk, by rw [← HKN.out]; exact Vg.v.knows, fun c hc => ?_⟩, by rw [← eb]; exact Vg.bp.monoP PP, by show RdL (RdP RdC p) wg _ 5 (x.list ++ [cN]); rw [← el]; exact Lg.2.2.2.monoP PP, fun hl ad e => ?_, fun _ ad e => ?_, fun hl ad e => ?_⟩, hwg⟩
                · rcases List.mem_append.1 hc with hc | hc
                  · exact Vg.v.need c (by rw [el]; exact hc)
                  · rw [List.mem_singleton] at hc
                    subst hc
                    have h1 := CN.out.len
                    have h2 := HNL.out
                    omega
                · exact ((HPQ.out _).1 (Vg.b0 (by rw [eb]; exact hl) ad e)).1
                · injection e with e
                  subst e
                  exact HP.out gL (by have h1 := LB.out; have h2 := GS.out; have h3 := Z.out; omega)
                · exact ((HPQ.out _).1 (Vg.k0 (by rw [HKN.out]; exact hl) ad e)).1

end Go.Proofs.YtpmbpklbiocclaaGreat
