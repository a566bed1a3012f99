/-
  Texts of this claim joined: Ca1, Ca2.
-/
import Derived.Test.YtpmbpklbiocclaaGreatGrAJ

/-
  The program's: Last, made, has, Done; the numbers that a list has of those that are left (still).
-/
namespace Go.Proofs.YtpmbpklbiocclaaGreat
open Go.RowKit

theorem Tryz.zeroChg : (Tryz.prog.info? 95).map (·.zero) = some (some (.pointer none)) := by kernel_rfl
theorem Tryz.zeroBlk : (Tryz.prog.info? 103).map (·.zero) = some (some (.pointer none)) := by kernel_rfl
section
variable {w : World} {ro : Nat → Option Rl} {A : CA} {S : CS}
theorem last_any (h : HP w ro A S) : Calls Tryz.prog 33 #[ptr A.ca] w fun e w' => e = .returned (.int .i64 S.last) ∧ w' = w := by
  have c1 : w.cell? ⟨A.ca, 3, none⟩ = some (.int .i64 S.last) := h.cc.cell 3
  clear h
  unfold ptr
  go_enter Tryz.func33, Tryz.ntmps33
  go_wp2_with fail
  go_ret
  exact ⟨rfl, rfl⟩
def madeB (last id : Int) : Bool := decide (1 ≤ id) && decide (id ≤ last)
theorem made_any (h : HP w ro A S) (id : Int) : Calls Tryz.prog 47 #[ptr A.ca, .int .i64 id] w fun e w' => e = .returned (.bool (madeB S.last id)) ∧ w' = w := by
  have H := Lib.hid h
  clear h
  cases d0 : decide (1 ≤ id)
  · have HE : Hid (madeB S.last id = false) := Lib.hid (by unfold madeB; rw [d0]; rfl)
    go_enter Tryz.func47, Tryz.ntmps47
    go_wp2_with fail
    go_ret
    exact ⟨by rw [HE.out]; rfl, rfl⟩
  · have HE : Hid (madeB S.last id = decide (id ≤ S.last)) := Lib.hid (by unfold madeB; rw [d0]; rfl)
    go_enter Tryz.func47, Tryz.ntmps47
    go_wp2_with fail
    refine (last_any H.out).mono ?_; rintro e w1 ⟨rfl, rfl⟩
    go_wp2_with fail
    go_ret
    exact ⟨by rw [HE.out]; rfl, rfl⟩
theorem has_any (h : HP w ro A S) (id : Int) (hlo : -9223372036854775808 ≤ id) (hhi : id < 9223372036854775808) : Calls Tryz.prog 81 #[ptr A.ca, .int .i64 id] w fun e w' => e = .returned (.bool (S.lf id)) ∧ w' = w := by
  have c1 : w.cell? ⟨A.ca, 2, none⟩ = some (.map (some A.ml)) := h.cc.cell 2
  have HM := Lib.hid h.mlw
  have Hw := Lib.hid (wf_int hlo hhi)
  have HL : Hid ((pmap S.lf A.ha id).isSome = S.lf id) := Lib.hid (by
    cases e : S.lf id
    · exact (pmap_out e).2
    · exact (pmap_in e).2)
  clear h hlo hhi
  unfold ptr
  go_enter Tryz.func81, Tryz.ntmps81
  go_wp2_with (refine wpList_lookZ_ok rfl _ _ _ rfl _ _ Tryz.underlying3 Tryz.underlying94 Tryz.zeroChg rfl HM.out id rfl Hw.out _ rfl _ HL.out ?_)
  go_ret
  exact ⟨rfl, rfl⟩
theorem put1_any (h : HP w ro A S) (b : Nat) (t : TypeId) (hb : Blk w b t #[ptr A.ca]) (id : Int) : Calls Tryz.prog 46 #[.int .i64 id, .pointer (some ⟨b, 0, none⟩)] w fun e w' => e = .returned (.bool (!madeB S.last id)) ∧ w' = w := by
  have H := Lib.hid h
  have c1 : w.cell? ⟨b, 0, none⟩ = some (ptr A.ca) := hb.cell 0
  clear h hb
  go_enter Tryz.func46, Tryz.ntmps46
  go_wp2_with fail
  refine (made_any H.out id).mono ?_; rintro e w1 ⟨rfl, rfl⟩
  go_wp2_with fail
  go_ret
  exact ⟨rfl, rfl⟩
end

end Go.Proofs.YtpmbpklbiocclaaGreat

/-
  The program's: those of some numbers that are left (still); is one of the needs none that was made; two rows of numbers as one (slices.Concat).
-/
namespace Go.Proofs.YtpmbpklbiocclaaGreat
open Go.RowKit

theorem cell_ext {w w' : World} (h : Below w.heap.size w w') {p : Addr} {v : Value} (hc : w.cell? p = some v) : w'.cell? p = some v := (h.cell (block_lt_of_cell hc)).trans hc
def stillL (f : Int → Bool) (l : List Int) : List Int := sortI (l.filter f)
theorem stillL_spec (f : Int → Bool) (l : List Int) : RiseI (stillL f l) ∧ ∀ x, x ∈ stillL f l ↔ x ∈ l ∧ f x = true := by
  obtain ⟨h1, h2⟩ := sortI_rises (l.filter f)
  exact ⟨h1, fun x => by rw [stillL, h2, List.mem_filter]⟩
theorem filter_take_on {f : Int → Bool} {l : List Int} {k : Nat} (hk : k < l.length) (h : f l[k] = true) : (l.take (k + 1)).filter f = (l.take k).filter f ++ [l[k]] := by
  rw [List.take_succ_eq_append_getElem hk, List.filter_append]
  simp [h]
theorem filter_take_off {f : Int → Bool} {l : List Int} {k : Nat} (hk : k < l.length) (h : f l[k] = false) : (l.take (k + 1)).filter f = (l.take k).filter f := by
  rw [List.take_succ_eq_append_getElem hk, List.filter_append]
  simp [h]
theorem filter_take_len (f : Int → Bool) (l : List Int) (k : Nat) : ((l.take k).filter f).length ≤ k := by
  refine Nat.le_trans (List.length_filter_le _ _) ?_
  rw [List.length_take]
  omega
theorem Lies.bel {w0 w w' : World} {v v' : Value} (h : Lies w w' v v') (hb : Below w0.heap.size w0 w) (hv : ∀ k, v.ownBlock = some k → w0.heap.size ≤ k) : Below w0.heap.size w0 w' := hb.grown h.grown hb.size fun k hk => hv k hk
section
variable {P : Program} {ops : Array Oper} {rest : List Oper} {o : Oper} {a : Act} {w : World} {K : Act → World → Prop} {Q : Exit → Act → World → Prop}
theorem run_append_many (P : Program) (w : World) (t ty e : TypeId) (ht : P.underlying t = some (.slice e)) (z : Value) (by_ : Nat) (hi : (P.info? e).map (fun i => (i.zero, i.size, i.bytes)) = some (some z, 1, by_)) (hz : z.cells.size = 1)
    (B : Nat) (v : Value) (l : List Value) (hown : OwnC w B e v l) (A : Option Addr) (n c : Nat) (m : List Value) (hn : m.length = n) (hr : RC w A m) (h1 : ∀ u ∈ m, u.oneCell' = true) (hB : B ≤ w.heap.size) (hlen : l.length + n ≤ maxLen) (hby : (l.length + n) * by_ ≤ 140737488355328) :
    ∃ v' w', (Builtin.append_ #[t, t] ty #[v, .slice A n c]).run P w = .ok v' w' ∧ OwnC w' B e v' (l ++ m) ∧ w.grownBy w' v.ownBlock := by
  obtain ⟨i, q1, q2, q3, q4⟩ := info_parts hi
  have go : ∀ ad, (∀ j u, m[j]? = some u → w.cell? (ad.add j) = some u) → ∃ v' w', (Builtin.append_ #[t, t] ty #[v, .slice (some ad) n c]).run P w = .ok v' w' ∧ OwnC w' B e v' (l ++ m) ∧ w.grownBy w' v.ownBlock := fun ad hnews => by
    obtain ⟨v', w', hrun, ho, hg, _⟩ := run_append_own (P := P) w B t ty e i z 1 by_ ht q1 q2 q3 q4 hz (by omega) v l.length l hown ad n c m (by omega) hnews h1 hlen hby hB
    refine ⟨v', w', hrun, ?_, hg⟩
    unfold OwnC
    rw [List.length_append, hn]
    exact ho
  cases A with
  | none =>
    have h0 : n = 0 := by
      rcases Nat.eq_zero_or_pos n with h | h
      · exact h
      · obtain ⟨ad, e, _⟩ := hr 0 (by omega)
        cases e
    subst h0
    have hm : m = [] := List.eq_nil_of_length_eq_zero hn
    subst hm
    refine ⟨v, w, ?_, by rw [List.append_nil]; exact hown, grown_same _ _⟩
    rcases hown.2 with ⟨rfl, _⟩ | ⟨g, cap, cur, rfl, _, _, hnc, _⟩
    · simp [Builtin.append_, run_underlying ht, sizeOf, typeInfo, q1, Builtin.lenOf, Builtin.firstCells]
    · simp [Builtin.append_, run_underlying ht, sizeOf, typeInfo, q1, Builtin.lenOf, Builtin.firstCells, storeCells, hnc]
  | some ad =>
    refine go ad fun j u hj => ?_
    have hjl := (List.getElem?_eq_some_iff.1 hj).1
    obtain ⟨ad', e, hc⟩ := hr j hjl
    injection e with e
    subst e
    rw [hc, ← hj, List.getElem?_eq_getElem hjl]
theorem ow_append_many (s x : Operand) (t e : TypeId) (ho : o.op = .call { callee := .builtin .append, args := #[s, x], argTypes := #[t, t] })
    (ht : P.underlying t = some (.slice e)) (z : Value) (by_ : Nat) (hi : (P.info? e).map (fun i => (i.zero, i.size, i.bytes)) = some (some z, 1, by_)) (hz : z.cells.size = 1)
    (B : Nat) (v : Value) (l : List Value) (hs : a.eval s = v) (hown : OwnC w B e v l) (A : Option Addr) (n c : Nat) (m : List Value) (hx : a.eval x = .slice A n c) (hn : m.length = n) (hr : RC w A m) (h1 : ∀ u ∈ m, u.oneCell' = true) (hB : B ≤ w.heap.size) (hlen : l.length + n ≤ maxLen) (hby : (l.length + n) * by_ ≤ 140737488355328)
    (h : Stop (∀ v' w', Hid (OwnC w' B e v' (l ++ m)) → Hid (w.grownBy w' v.ownBlock) → K (a.put o.dst v') w')) : o.wp P a w K Q := by
  obtain ⟨v', w', hrun, r1, r2⟩ := run_append_many P w t o.type e ht z by_ hi hz B v l hown A n c m hn hr h1 hB hlen hby
  unfold Oper.wp execOp
  simp only [ho, resolve, invoke, builtin, Sem.run_bind, Sem.run_pure, Result.andThen_ok, List.map_toArray, List.map_cons, List.map_nil, hs, hx, hrun]
  exact h v' w' r1 r2
theorem wpList_append_many (hgd : Region.wanted o (yielded ops a.tmps) = true) (s x : Operand) (t e : TypeId) (ho : o.op = .call { callee := .builtin .append, args := #[s, x], argTypes := #[t, t] })
    (ht : P.underlying t = some (.slice e)) (z : Value) (by_ : Nat) (hi : (P.info? e).map (fun i => (i.zero, i.size, i.bytes)) = some (some z, 1, by_)) (hz : z.cells.size = 1)
    (B : Nat) (v : Value) (l : List Value) (hs : a.eval s = v) (hown : OwnC w B e v l) (A : Option Addr) (n c : Nat) (m : List Value) (hx : a.eval x = .slice A n c) (hn : m.length = n) (hr : RC w A m) (h1 : ∀ u ∈ m, u.oneCell' = true) (hB : B ≤ w.heap.size) (hlen : l.length + n ≤ maxLen) (hby : (l.length + n) * by_ ≤ 140737488355328)
    (h : Stop (∀ v' w', Hid (OwnC w' B e v' (l ++ m)) → Hid (w.grownBy w' v.ownBlock) → wpList P ops Q rest (a.put o.dst v') w')) : wpList P ops Q (o :: rest) a w :=
  wpList_wanted hgd fun _ hK => ow_append_many s x t e ho ht z by_ hi hz B v l hs hown A n c m hx hn hr h1 hB hlen hby (fun v' w' h1 h2 => hK _ _ (h v' w' h1 h2))
end
section
variable {w : World} {ro : Nat → Option Rl} {A : CA} {S : CS}
set_option maxRecDepth 100000 in
set_option maxHeartbeats 4000000 in
theorem still_any (h : HP w ro A S) (A0 : Option Addr) (n c : Nat) (l : List Int) (hn : l.length = n) (hm : n ≤ 100000) (hlh : ∀ x ∈ l, -9223372036854775808 ≤ x ∧ x < 9223372036854775808) (hr : RC w A0 (ivals l)) :
    Calls Tryz.prog 50 #[ptr A.ca, .slice A0 n c] w fun e w' => ∃ v, e = .returned v ∧ OwnC w' w.heap.size 3 v (ivals (stillL S.lf l)) ∧ Below w.heap.size w w' := by
  have H := Lib.hid h
  have Hn := Lib.hid hn
  have Hr := Lib.hid hr
  have HLH := Lib.hid hlh
  obtain ⟨C0, hC0⟩ : ∃ C0, ptr A.ca = C0 := ⟨_, rfl⟩
  have HC := Lib.hid hC0
  rw [hC0]
  clear h hn hr hlh hC0
  go_enter Tryz.func50, Tryz.ntmps50
  go_wp2_with fail
  go_loopw [5, 10] (fun v i wr => ∃ k : Nat, k ≤ n ∧ i = .int .i64 k ∧ OwnC wr w.heap.size 3 v (ivals ((l.take k).filter S.lf)) ∧ Below w.heap.size w wr) (fun _ i _ => n - (intOf i).toNat)
  case atStart => exact ⟨0, Nat.zero_le _, rfl, OwnC.nil_ _ _ _, Below.refl _ _⟩
  case round =>
    obtain ⟨k, hk, rfl, hu, hbw⟩ := hrel
    have Hu := Lib.hid hu
    have Hbw := Lib.hid hbw
    clear hu hbw
    by_cases hlt : k < n
    · have d0 : decide ((k : Int) < n) = true := by simpa using hlt
      have hkl : k < l.length := by rw [Hn.out]; exact hlt
      obtain ⟨ad, rfl, hc⟩ := (Hr.out.below Hbw.out).int k hkl
      have Hoff := Lib.hid (filter_take_off (f := S.lf) hkl)
      have Hon := Lib.hid (filter_take_on (f := S.lf) hkl)
      have hl0 := filter_take_len S.lf l k
      have hl1 : (ivals ((l.take k).filter S.lf)).length + 1 ≤ maxLen := by rw [ivals_len]; unfold maxLen; omega
      have hl2 : ((ivals ((l.take k).filter S.lf)).length + 1) * 8 ≤ 140737488355328 := by rw [ivals_len]; omega
      have HX := Lib.hid (HLH.out l[k] (List.getElem_mem hkl))
      generalize l[k] = x at *
      generalize (l.take k).filter S.lf = L at *
      clear hkl
      go_wp2_with fail
      rw [← HC.out]
      refine (has_any (H.out.ext Hbw.out) x HX.out.1 HX.out.2).mono ?_; rintro e w2 ⟨rfl, rfl⟩
      rw [HC.out]
      cases hb : S.lf x
      · have HL := Lib.hid (Hoff.out hb)
        clear hb
        go_wp2_with fail
        go_roundw
        case rel => exact ⟨k + 1, by omega, by go_num, by rw [HL.out]; exact Hu.out, Hbw.out⟩
        case measure => simp [intOf]; omega
      · have HL := Lib.hid (Hon.out hb)
        clear hb
        go_wp2_with (at_builtin; refine wpList_append_one rfl _ _ _ _ rfl Tryz.underlying59 (.int .i64 0) 8 Tryz.infoInt rfl w.heap.size _ _ rfl Hu.out (.int .i64 x) rfl rfl Hbw.out.size hl1 hl2 ?_)
        apply Stop.go
        intro v' w6 Hv' Ha'
        have D6 := Lib.hid (Hbw.out.trans Ha'.out.below)
        go_wp2_with fail
        go_roundw
        case rel => exact ⟨k + 1, by omega, by go_num, by rw [HL.out, ← ivals_snoc]; exact Hv'.out, D6.out⟩
        case measure => simp [intOf]; omega
    · have d0 : decide ((k : Int) < n) = false := by simpa using hlt
      have HE : Hid ((l.take k).filter S.lf = l.filter S.lf) := Lib.hid (by rw [List.take_of_length_le (by have := Hn.out; omega)])
      have hl0 := filter_take_len S.lf l k
      have Hu' := Lib.hid (HE.out ▸ Hu.out)
      rw [HE.out] at hl0
      go_wp2_with fail
      refine (sortOwn_any w.heap.size _ _ (by omega) _ Hu'.out).mono ?_; rintro e w3 ⟨rfl, hs1, hs2⟩
      have Hs := Lib.hid hs1
      have H3 := Lib.hid (hs2.bel Hbw.out (fun k hk => (Hu'.out.lt k hk).1))
      clear hs1 hs2
      go_wp2_with fail
      refine (compactOwn_any w.heap.size _ _ (by rw [List.length_mergeSort]; omega) _ Hs.out).mono ?_; rintro e w4 ⟨v', rfl, hc1, hc2⟩
      have Hc := Lib.hid hc1
      have H4 := Lib.hid (hc2.bel H3.out (fun k hk => (Hs.out.lt k hk).1))
      clear hc1 hc2
      go_wp2_with fail
      go_ret
      exact ⟨_, rfl, Hc.out, H4.out⟩

set_option maxRecDepth 100000 in
set_option maxHeartbeats 1600000 in
theorem idxp_any (h : HP w ro A S) (b : Nat) (t : TypeId) (hb : Blk w b t #[ptr A.ca]) (A0 : Option Addr) (n c : Nat) (l : List Int) (hn : l.length = n) (hm : n ≤ 100000) (hr : RC w A0 (ivals l)) :
    Calls Tryz.prog 79 #[.slice A0 n c, .func (.func 46) #[] #[.pointer (some ⟨b, 0, none⟩)]] w fun e w' => w' = w ∧ ((∃ k : Nat, e = .returned (.int .i64 k) ∧ (l.all fun x => madeB S.last x) = false) ∨ (e = .returned (.int .i64 (-1)) ∧ (l.all fun x => madeB S.last x) = true)) := by
  have H := Lib.hid h
  have Hb := Lib.hid hb
  have Hn := Lib.hid hn
  have Hr := Lib.hid hr
  clear h hb hn hr
  go_enter Tryz.func79, Tryz.ntmps79
  go_wp2_with fail
  go_loop [8] (fun i => ∃ k : Nat, k ≤ n ∧ i = .int .i64 k ∧ (∀ j (h : j < l.length), j < k → madeB S.last l[j] = true)) (fun i => n - (intOf i).toNat)
  case atStart => exact ⟨0, Nat.zero_le _, rfl, fun j _ h => absurd h (Nat.not_lt_zero _)⟩
  case round =>
    obtain ⟨k, hk, rfl, hno⟩ := hrel
    have Hno := Lib.hid hno
    clear hno
    by_cases hlt : k < n
    · have d0 : decide ((k : Int) < n) = true := by simpa using hlt
      have hkl : k < l.length := by rw [Hn.out]; exact hlt
      obtain ⟨ad, rfl, hc⟩ := Hr.out.int k hkl
      have HK := Lib.hid (show madeB S.last l[k] = false → (l.all fun x => madeB S.last x) = false from fun h => by
        rw [Bool.eq_false_iff]
        intro h2
        have := List.all_eq_true.1 h2 l[k] (List.getElem_mem hkl)
        rw [h] at this
        cases this)
      have HK2 := Lib.hid (show madeB S.last l[k] = true → ∀ j (h : j < l.length), j < k + 1 → madeB S.last l[j] = true from fun h j hj hjk => by
        by_cases hc : j = k
        · subst hc; exact h
        · exact Hno.out j hj (by omega))
      generalize l[k] = x at *
      go_wp2_with fail
      refine (put1_any H.out b t Hb.out x).mono ?_; rintro e w2 ⟨rfl, rfl⟩
      cases he : madeB S.last x
      · have HX := Lib.hid (HK.out he)
        clear he
        go_wp2_with fail
        go_ret
        exact ⟨rfl, Or.inl ⟨k, rfl, HX.out⟩⟩
      · have HX := Lib.hid (HK2.out he)
        clear he
        go_wp2_with fail
        go_round
        case rel => exact ⟨k + 1, by omega, by go_num, HX.out⟩
        case measure => simp [intOf]; omega
    · have d0 : decide ((k : Int) < n) = false := by simpa using hlt
      go_wp2_with fail
      go_ret
      exact ⟨rfl, Or.inr ⟨rfl, fun x hx => by
        obtain ⟨j, hj, rfl⟩ := List.getElem_of_mem hx
        exact Hno.out j hj (by have := Hn.out; omega)⟩⟩
theorem conp_any (h : HP w ro A S) (b : Nat) (t : TypeId) (hb : Blk w b t #[ptr A.ca]) (A0 : Option Addr) (n c : Nat) (l : List Int) (hn : l.length = n) (hm : n ≤ 100000) (hr : RC w A0 (ivals l)) :
    Calls Tryz.prog 45 #[.slice A0 n c, .func (.func 46) #[] #[.pointer (some ⟨b, 0, none⟩)]] w fun e w' => e = .returned (.bool (!l.all fun x => madeB S.last x)) ∧ w' = w := by
  have HC := Lib.hid (idxp_any h b t hb A0 n c l hn hm hr)
  clear h hb hn hm hr
  go_enter Tryz.func45, Tryz.ntmps45
  go_wp2_with fail
  refine (HC.out).mono ?_; rintro e w2 ⟨rfl, hcase⟩
  rcases hcase with ⟨k, rfl, hx⟩ | ⟨rfl, hx⟩
  · have d0 : decide ((0 : Int) ≤ (k : Int)) = true := by simp
    go_wp2_with fail
    go_ret
    exact ⟨by rw [hx]; rfl, rfl⟩
  · go_wp2_with fail
    go_ret
    exact ⟨by rw [hx]; rfl, rfl⟩
end

theorem grow_any (n : Nat) (hn : n ≤ 100000) (w : World) : Calls Tryz.prog 108 #[.slice none 0 0, .int .i64 n] w fun e w' => ∃ v, e = .returned v ∧ OwnC w' w.heap.size 3 v [] ∧ Below w.heap.size w w' := by
  obtain ⟨i0, q1, q2, q3, q4⟩ := info_parts Tryz.infoInt
  rcases Nat.eq_zero_or_pos n with h0 | h0
  · subst h0
    refine (Any8.slices_Grow_room laysGrow none 0 0 0 w (by omega) (by omega) (by omega) (by omega)).mono ?_
    rintro e w' ⟨rfl, rfl⟩
    exact ⟨_, rfl, OwnC.nil_ _ _ _, Below.refl _ _⟩
  · refine (Any8.slices_Grow_grow laysGrow i0 (.int .i64 0) q1 q2 (by omega) none 0 0 n [] w (by omega) (by omega) (by rw [q4]; omega) (by omega) (by simp) (fun _ => rfl) (fun _ h => by cases h)).mono ?_
    rintro e w' ⟨rfl, rfl⟩
    have hge := grownCap_ge w n 0 3
    have hcm : grownCap w n 0 3 ≤ maxLen := grownCap_le_maxLen w n 0 _ (by unfold maxLen; omega)
    refine ⟨_, rfl, ⟨rfl, Or.inr ⟨w.heap.size, _, _, rfl, Nat.le_refl _, heap_alloc_new w.drew _, Nat.zero_le _, ?_, ?_, ?_⟩⟩, ⟨rfl, rfl, rfl, by simp, fun k hk => heap_alloc_old w.drew _ hk⟩⟩
    · rw [Nat.zero_add]; exact hcm
    · simp only [Array.size_append, List.size_toArray, List.length_nil, size_zeroCells, Nat.zero_add, Nat.sub_zero]
      change n * 1 + (grownCap w n 0 3 - n) * 1 = grownCap w n 0 3 * 1
      omega
    · simp
set_option maxRecDepth 100000 in
set_option maxHeartbeats 4000000 in
theorem concat_any (g : Nat) (tg : TypeId) (A1 : Option Addr) (n1 c1 : Nat) (l1 : List Int) (h1 : l1.length = n1) (A2 : Option Addr) (n2 c2 : Nat) (l2 : List Int) (h2 : l2.length = n2) (hm : n1 + n2 ≤ 100000) (w : World) (hg : Blk w g tg #[.slice A1 n1 c1, .slice A2 n2 c2]) (hr1 : RC w A1 (ivals l1)) (hr2 : RC w A2 (ivals l2)) :
    Calls Tryz.prog 80 #[.slice (some ⟨g, 0, none⟩) 2 2] w fun e w' => ∃ v, e = .returned v ∧ OwnC w' w.heap.size 3 v (ivals (l1 ++ l2)) ∧ Below w.heap.size w w' := by
  have Hg := Lib.hid hg
  have H1 := Lib.hid h1
  have H2 := Lib.hid h2
  have R1 := Lib.hid hr1
  have R2 := Lib.hid hr2
  clear hg h1 h2 hr1 hr2
  have k0 : w.cell? ⟨g, 0, none⟩ = some (.slice A1 n1 c1) := Hg.out.cell 0
  have k1 : w.cell? ⟨g, 1, none⟩ = some (.slice A2 n2 c2) := Hg.out.cell 1
  go_enter Tryz.func80, Tryz.ntmps80
  go_wp2_with fail
  go_loop [3, 11] (fun s i => ∃ k T : Nat, k ≤ 2 ∧ i = .int .i64 k ∧ s = .int .i64 (T : Int) ∧ Hid (T = if k = 0 then 0 else if k = 1 then n1 else n1 + n2)) (fun _ i => 2 - (intOf i).toNat)
  case atStart => exact ⟨0, 0, by omega, rfl, rfl, Lib.hid rfl⟩
  case round =>
    obtain ⟨k, T, hk, rfl, rfl, HT⟩ := hrel
    rcases Nat.lt_or_ge k 1 with hk0 | hk0
    · obtain rfl : k = 0 := by omega
      obtain rfl : T = 0 := HT.out
      have d1 : decide ((n1 : Int) < 0) = false := by simp
      go_wp2_with fail
      go_round
      case rel => exact ⟨1, n1, by omega, rfl, rfl, Lib.hid rfl⟩
      case measure => simp [intOf]
    · rcases Nat.lt_or_ge k 2 with hk1 | hk1
      · obtain rfl : k = 1 := by omega
        obtain rfl : T = n1 := HT.out
        obtain ⟨U, hU⟩ : ∃ U : Nat, U = T + n2 := ⟨_, rfl⟩
        have hUi : IntKind.i64.wrap ((T : Int) + (n2 : Int)) = (U : Int) := by rw [IntKind.wrap_i64]; omega
        have d1 : decide ((U : Int) < 0) = false := by simp
        have HU := Lib.hid hU
        clear hU
        go_wp2_with fail
        go_round
        case rel => exact ⟨2, U, by omega, rfl, rfl, HU⟩
        case measure => simp [intOf]
      · obtain rfl : k = 2 := by omega
        have hT : T ≤ 100000 := by have := HT.out; simp at this; omega
        clear HT
        go_wp2_with fail
        refine (grow_any T hT _).mono ?_; rintro e w2 ⟨v, rfl, ho, hb⟩
        have HO := Lib.hid ho
        have HB := Lib.hid hb
        clear ho hb
        go_wp2_with fail
        go_loopw [6, 27] (fun v i wr => ∃ (k : Nat) (L : List Int), k ≤ 2 ∧ i = .int .i64 k ∧ OwnC wr w.heap.size 3 v (ivals L) ∧ Below w.heap.size w wr ∧ Hid (L = if k = 0 then [] else if k = 1 then l1 else l1 ++ l2)) (fun _ i _ => 2 - (intOf i).toNat)
        case atStart => exact ⟨0, [], by omega, rfl, HO.out, HB.out, Lib.hid rfl⟩
        case round =>
          obtain ⟨k, L, hk, rfl, hu, hbw, HL⟩ := hrel
          have Hu := Lib.hid hu
          have Hbw := Lib.hid hbw
          clear hu hbw HO HB
          have e1 := H1.out
          have e2 := H2.out
          rcases Nat.lt_or_ge k 1 with hk0 | hk0
          · obtain rfl : k = 0 := by omega
            obtain rfl : L = [] := HL.out
            have k0 := cell_ext Hbw.out k0
            have k1 := cell_ext Hbw.out k1
            go_wp2_with (at_builtin; refine wpList_append_many rfl _ _ _ _ rfl Tryz.underlying59 (.int .i64 0) 8 Tryz.infoInt rfl w.heap.size _ _ rfl Hu.out A1 n1 c1 (ivals l1) rfl (by rw [ivals_len]; exact H1.out) (R1.out.below Hbw.out) (ivals_one _) Hbw.out.size (by simp only [ivals_len, List.length_nil]; unfold maxLen; omega) (by simp only [ivals_len, List.length_nil]; omega) ?_)
            apply Stop.go
            intro v' w6 Hv' Ha'
            have D6 := Lib.hid (Hbw.out.grown Ha'.out Hbw.out.size fun k hk => (Hu.out.lt k hk).1)
            go_wp2_with fail
            go_roundw
            case rel => exact ⟨1, l1, by omega, rfl, Hv'.out, D6.out, Lib.hid rfl⟩
            case measure => simp [intOf]
          · rcases Nat.lt_or_ge k 2 with hk1 | hk1
            · obtain rfl : k = 1 := by omega
              obtain rfl : L = l1 := HL.out
              have k0 := cell_ext Hbw.out k0
              have k1 := cell_ext Hbw.out k1
              go_wp2_with (at_builtin; refine wpList_append_many rfl _ _ _ _ rfl Tryz.underlying59 (.int .i64 0) 8 Tryz.infoInt rfl w.heap.size _ _ rfl Hu.out A2 n2 c2 (ivals l2) rfl (by rw [ivals_len]; exact H2.out) (R2.out.below Hbw.out) (ivals_one _) Hbw.out.size (by simp only [ivals_len]; unfold maxLen; omega) (by simp only [ivals_len]; omega) ?_)
              apply Stop.go
              intro v' w6 Hv' Ha'
              have D6 := Lib.hid (Hbw.out.grown Ha'.out Hbw.out.size fun k hk => (Hu.out.lt k hk).1)
              go_wp2_with fail
              go_roundw
              case rel => exact ⟨2, L ++ l2, by omega, rfl, by have h := Hv'.out; unfold ivals at h ⊢; rw [List.map_append]; exact h, D6.out, Lib.hid rfl⟩
              case measure => simp [intOf]
            · obtain rfl : k = 2 := by omega
              obtain rfl : L = l1 ++ l2 := HL.out
              go_wp2_with fail
              go_ret
              exact ⟨_, rfl, Hu.out, Hbw.out⟩

end Go.Proofs.YtpmbpklbiocclaaGreat
