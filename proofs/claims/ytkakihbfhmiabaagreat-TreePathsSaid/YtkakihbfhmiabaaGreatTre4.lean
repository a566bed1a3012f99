/-
  Contract of package tree's Paths.
-/
import Derived.Test.YtkakihbfhmiabaaGreatGrAY
import Derived.Test.YtkakihbfhmiabaaGreatGrAX
namespace Go.Proofs.YtkakihbfhmiabaaGreat
open Go.RowKit
set_option maxRecDepth 10000

theorem joinP_size (p s : ByteArray) : (joinP p s).size = p.size + 1 + s.size := by
  unfold joinP
  rw [ByteArray.size_append, ByteArray.size_append]
  rfl
section
variable {t : List Nd} {S : Nat}
theorem rowE_size {p : ByteArray} {k : Nat} (hp : p.size ≤ k * (S + 1)) : ∀ {l : List En} {s : Wy}, (∀ e ∈ l, e.name.size ≤ S) → k < s.ways.length → (∀ i w, s.ways[i]? = some w → w.2.size ≤ i * (S + 1)) → ∀ i w, (rowE t p s l).ways[i]? = some w → w.2.size ≤ i * (S + 1)
  | [], _, _, _, h => h
  | e :: l, s, hl, hk, h => by
    rw [rowE_cons]
    have he := hl e (by simp)
    rcases stepE_cases (t := t) (p := p) (s := s) e with h1 | ⟨n, _, _, _, h1⟩ <;> rw [h1]
    · exact rowE_size hp (fun e he => hl e (by simp [he])) hk h
    · refine rowE_size hp (fun e he => hl e (by simp [he])) (by simp; omega) fun i w hw => ?_
      by_cases hi : i < s.ways.length
      · exact h i w (by rw [List.getElem?_append_left hi] at hw; exact hw)
      · rw [List.getElem?_append_right (by omega)] at hw
        have h0 : i - s.ways.length = 0 := by
          have := (List.getElem?_eq_some_iff.1 hw).1
          simp at this
          omega
        rw [h0] at hw
        simp at hw
        subst hw
        show (joinP p e.name).size ≤ _
        rw [joinP_size]
        have : (k + 1) * (S + 1) ≤ i * (S + 1) := Nat.mul_le_mul_right _ (by omega)
        rw [Nat.add_mul] at this
        omega
theorem namesAt_mem {k : Nat} {e : En} (h : e ∈ namesAt t k) : ∃ x ∈ t, e ∈ x.names := by
  unfold namesAt at h
  cases hk : t[k]? with
  | none => rw [hk] at h; simp at h
  | some n => rw [hk] at h; exact ⟨n, List.mem_of_getElem? hk, h⟩
theorem wayW_size (hS : ∀ x ∈ t, ∀ e ∈ x.names, e.name.size ≤ S) (r : Nat) : ∀ k i w, (wayW t r k).ways[i]? = some w → w.2.size ≤ i * (S + 1)
  | 0, i, w, h => by
    have hi : i = 0 := by
      have := (List.getElem?_eq_some_iff.1 h).1
      simp [wayW] at this
      exact this
    subst hi
    simp [wayW] at h
    subst h
    exact Nat.zero_le _
  | k + 1, i, w, h => by
    have ih := wayW_size hS r k
    have h : (stepY t (wayW t r k) k).ways[i]? = some w := h
    cases hk : (wayW t r k).ways[k]? with
    | none => rw [stepY_none (List.getElem?_eq_none_iff.1 hk)] at h; exact ih i w h
    | some q =>
      obtain ⟨n, p⟩ := q
      rw [stepY_some hk] at h
      exact rowE_size (ih k _ hk) (fun e he => by
        obtain ⟨x, hx, he'⟩ := namesAt_mem he
        exact hS x hx e he') (List.getElem?_eq_some_iff.1 hk).1 ih i w h
end
section
variable {t : List Nd} {p : ByteArray} {s : Wy} {e : En}
theorem stepE_no (h : leftP t s.gone e.ino = none) : stepE t p s e = ⟨s.ways, s.gone, s.out ++ [joinP p e.name]⟩ := by unfold stepE; rw [h]; rfl
theorem stepE_off {n : Nat} (h : leftP t s.gone e.ino = some n) (hk : kindAt t n ≠ 2) : stepE t p s e = ⟨s.ways, s.gone, s.out ++ [joinP p e.name]⟩ := by
  unfold stepE
  rw [h]
  simp only [stepO]
  rw [if_neg hk]
theorem stepE_dir {n : Nat} (h : leftP t s.gone e.ino = some n) (hk : kindAt t n = 2) : stepE t p s e = ⟨s.ways ++ [(n, joinP p e.name)], s.gone ++ [e.ino], s.out ++ [joinP p e.name]⟩ := by
  unfold stepE
  rw [h]
  simp only [stepO]
  rw [if_pos hk]
theorem leftP_lt {gone : List Int} {i : Int} {n : Nat} (h : leftP t gone i = some n) : n < t.length := by
  unfold leftP at h
  split at h
  · cases h
  · exact fstI_lt h
end
/-- What the three lists of the walk are. -/
structure PI (P : Program) (K e1 e2 : TypeId) (t : List Nd) (B b n : Nat) (s : Wy) (vl vw : Value) (w : World) : Prop where
  map : MapZ (.int .i64 0) w P K b n (lftM t s.gone)
  out : OwnC w B e1 vl (svals s.out)
  way : OwnN w B e2 2 vw (wrows s.ways)
  lo : B ≤ b
  nl : vl.ownBlock ≠ some b
  nw : vw.ownBlock ≠ some b
  ap : Apart vl vw
theorem PI.ext {P : Program} {K e1 e2 : TypeId} {t : List Nd} {B b n : Nat} {s : Wy} {vl vw : Value} {w w' : World} (h : PI P K e1 e2 t B b n s vl vw w) (hb : Below w.heap.size w w') : PI P K e1 e2 t B b n s vl vw w' :=
  ⟨h.map.ext hb, h.out.ext hb, h.way.ext hb, h.lo, h.nl, h.nw, h.ap⟩
theorem RdL.nodeA {w : World} {ad : Addr} {t : List Nd} (h : RdL RdN w (some ad) 7 t) {k : Nat} {n : Nd} (hk : t[k]? = some n) : ∃ x, RNc w x n ∧ ∀ j v, (nrow x)[j]? = some v → w.cell? ((ad.add (k * 7)).add j) = some v := by
  obtain ⟨ad', x, e, h1, h2⟩ := h.node hk
  injection e with e
  subst e
  exact ⟨x, h1, h2⟩
/-- .. behind a path appended. -/
theorem PI.path {P : Program} {K e1 e2 : TypeId} {t : List Nd} {B b n : Nat} {s : Wy} {vl vl' vw : Value} {w w' : World} {q : ByteArray} (h : PI P K e1 e2 t B b n s vl vw w) (ho : OwnC w' B e1 vl' (svals s.out ++ [.string q])) (hs : Save (Has vl) w w') (hn : Next w (Has vl) (Has vl')) : PI P K e1 e2 t B b n ⟨s.ways, s.gone, s.out ++ [q]⟩ vl' vw w' := by
  refine ⟨h.map.same (hs.block b h.map.lt h.nl), by rw [← svals_snoc]; exact ho, h.way.save hs fun k hk hf => h.ap k hf hk, h.lo, off_next h.map.lt h.nl hn, h.nw, fun k hk hw => ?_⟩
  rcases hn k hk with h1 | h1
  · exact h.ap k h1 hw
  · have := (h.way.lt k hw).2
    omega
/-- .. behind a number struck out. -/
theorem PI.strike {P : Program} {K e1 e2 : TypeId} {t : List Nd} {B b n : Nat} {s : Wy} {vl vw : Value} {w w' : World} {i : Int} (h : PI P K e1 e2 t B b n s vl vw w) (hm : MapZ (.int .i64 0) w' P K b n (updM (lftM t s.gone) i none)) (ho : Only w w' b) : PI P K e1 e2 t B b n ⟨s.ways, s.gone ++ [i], s.out⟩ vl vw w' := by
  have hs : Save (fun k => k = b) w w' := Save.refl.only ho rfl
  exact ⟨by rw [← lftM_gone]; exact hm, h.out.save hs fun k hk e => h.nl (by rw [hk, e]), h.way.save hs fun k hk e => h.nw (by rw [hk, e]), h.lo, h.nl, h.nw, h.ap⟩
/-- .. behind a way appended. -/
theorem PI.way_ {P : Program} {K e1 e2 : TypeId} {t : List Nd} {B b n : Nat} {s : Wy} {vl vw vw' : Value} {w w' : World} {q : Nat × ByteArray} (h : PI P K e1 e2 t B b n s vl vw w) (ho : OwnN w' B e2 2 vw' (wrows s.ways ++ [wrow q])) (hs : Save (Has vw) w w') (hn : Next w (Has vw) (Has vw')) : PI P K e1 e2 t B b n ⟨s.ways ++ [q], s.gone, s.out⟩ vl vw' w' := by
  refine ⟨h.map.same (hs.block b h.map.lt h.nw), h.out.save hs fun k hk hf => h.ap k hk hf, by rw [wrows_snoc]; exact ho, h.lo, h.nl, off_next h.map.lt h.nw hn, fun k hk hw => ?_⟩
  rcases hn k hw with h1 | h1
  · exact h.ap k hk h1
  · have := (h.out.lt k hk).2
    omega

theorem Tryz.wayInfo : (Tryz.prog.info? 73).map (fun i => (i.zero, i.size, i.bytes)) = some (some (.agg #[.int .i64 0, .string ⟨#[]⟩]), 2, 24) := by kernel_rfl
theorem Tryz.strInfo25 : (Tryz.prog.info? 9).map (fun i => (i.zero, i.size, i.bytes)) = some (some (.string ⟨#[]⟩), 1, 16) := by kernel_rfl
set_option maxHeartbeats 6400000 in
theorem tpaths_any (A : Option Addr) (n cap : Nat) (t : List Nd) (hn : t.length = n) (hm : n ≤ 4096) (hmn : ∀ x ∈ t, x.names.length ≤ 4096) (hN : allN t ≤ 100000) (hwf : ∀ x ∈ t, (Lit.int .i64 x.ino).wf = true ∧ ∀ e ∈ x.names, (Lit.int .i64 e.ino).wf = true) (S : Nat) (hS : ∀ x ∈ t, ∀ e ∈ x.names, e.name.size ≤ S) (hS2 : S ≤ 562949953421312) (w : World) (hr : RdL RdN w A 7 t) :
    Calls Tryz.prog 13 #[.slice A n cap] w fun e w' => ∃ u, e = .returned u ∧ OwnC w' w.heap.size 9 u (svals (pathP t)) ∧ Below w.heap.size w w' := by
  have HPl := Lib.hid (fun w h => tplaces_any A n cap t hn hm (fun x hx => (hwf x hx).1) w h)
  have Hn := Lib.hid hn
  have HR := Lib.hid hr
  have HWf := Lib.hid (fun x hx => (hwf x hx).2)
  have HMn := Lib.hid hmn
  have HS := Lib.hid hS
  have HNt := Lib.hid hN
  have HS2 := Lib.hid hS2
  have Hm := Lib.hid hm
  have h1w : Hid ((Lit.int .i64 1).wf = true) := Lib.hid (by decide)
  obtain ⟨o, ho⟩ : ∃ o, fstI t 1 = o := ⟨_, rfl⟩
  have HF := Lib.hid ho
  clear hn hr hwf hmn hS hN hS2 hm ho
  go_enter Tryz.func13, Tryz.ntmps13
  go_wp2_with fail
  refine (HPl.out _ HR.out).mono ?_; rintro e w1 ⟨b, rfl, hlo, hM, hb1⟩
  have HM := Lib.hid hM
  have HLo := Lib.hid hlo
  have E1 := Lib.hid hb1
  clear hM hlo hb1 HPl
  have HL1 := Lib.hid (show lftM t [] 1 = o.map fun k => Value.int .i64 (k : Int) by rw [lftM_nil]; unfold fstM; rw [HF.out])
  cases o with
  | none =>
    have HP0 := Lib.hid (show pathP t = [] by unfold pathP outP; rw [HF.out]; exact sortS_nil)
    go_wp2_with (refine wpList_lookZ_ok rfl _ _ _ rfl _ _ Tryz.underlying3 Tryz.underlying70 Tryz.zeroInt25 rfl HM.out 1 rfl h1w.out (.int .i64 0) (by rw [HL1.out]; rfl) false (by rw [HL1.out]; rfl) ?_)
    go_ret
    exact ⟨_, rfl, by rw [HP0.out]; exact OwnC.nil_ _ _ _, E1.out⟩
  | some r =>
    have hrl : r < t.length := fstI_lt HF.out
    obtain ⟨rt, hrt⟩ : ∃ rt, t[r]? = some rt := ⟨_, List.getElem?_eq_getElem hrl⟩
    have HRt := Lib.hid hrt
    obtain ⟨ad, x, rfl, hx, hc⟩ := (HR.out.below E1.out).node hrt
    have c1 : w1.cell? ⟨(ad.add (r * 7)).block, (ad.add (r * 7)).off + 1, none⟩ = some (.int .i64 rt.kind) := by
      rw [← hx.kind]
      exact node_at hc 1 _ rfl
    have p0 : (0 : Int) ≤ (r : Int) := by omega
    have p1 : (r : Int) < (n : Int) := by have := Hn.out; omega
    clear hx hc hrt hrl
    by_cases hk2 : rt.kind = 2
    · have hkb : (rt.kind == 2) = true := by simpa using hk2
      have HK2 := Lib.hid (show kindAt t r = 2 by rw [kindAt_some HRt.out]; exact hk2)
      clear hk2
      have HW := Lib.hid (fun k => WY.way HF.out HK2.out k)
      have HOl := Lib.hid (fun k => Nat.le_trans (out_len HF.out HK2.out k) HNt.out)
      have HSz := Lib.hid (fun k => wayW_size HS.out r k)
      have HEnd := Lib.hid (fun k h => wayW_end (k := k) HF.out HK2.out h)
      have HOut := Lib.hid (show pathP t = sortS (wayW t r t.length).out by
        unfold pathP outP
        rw [HF.out]
        simp only
        rw [if_pos HK2.out])
      have HSt : Hid (wayW t r 0 = ⟨[(r, ⟨#[]⟩)], [1], []⟩) := Lib.hid rfl
      go_wp2_with (first | refine wpList_lookZ_ok rfl _ _ _ rfl _ _ Tryz.underlying3 Tryz.underlying70 Tryz.zeroInt25 rfl HM.out 1 rfl h1w.out (.int .i64 (r : Int)) (by rw [HL1.out]; rfl) true (by rw [HL1.out]; rfl) ?_ | refine wpList_mapZ_delete rfl _ _ _ _ rfl _ Tryz.underlying3 Tryz.underlying70 rfl HM.out 1 rfl h1w.out ?_)
      apply Stop.go; intro w2 HM2 Ho2
      have E2 := Lib.hid (bonly E1.out Ho2.out HLo.out)
      rw [lftM_gone] at HM2
      clear HM Ho2 E1 HL1 c1
      go_wp2_with (refine wpList_build_row rfl _ _ _ rfl Tryz.underlying74 2 _ _ Tryz.wayInfo (by decide) (by decide) #[.int .i64 (r : Int), .string ⟨#[]⟩] rfl rfl ?_)
      apply Stop.go; intro w3 Hg3 Hb3
      have E3 := Lib.hid (bt E2.out Hg3.out.1)
      have HI3 : Hid (PI Tryz.prog 3 9 73 t w.heap.size b n (wayW t r 0) (.slice none 0 0) (.slice (some ⟨w2.heap.size, 0, none⟩) 1 1) w3) := Lib.hid ⟨by rw [HSt.out]; exact HM2.out.ext Hg3.out.1, by rw [HSt.out]; exact OwnC.nil_ _ _ _, by
        rw [HSt.out]
        exact OwnN.lit1 (Nat.le_trans E2.out.size (Nat.le_refl _)) Hb3.out rfl rfl, HLo.out, by simp [Value.ownBlock], by
        have := HM2.out.lt
        simp only [Value.ownBlock]
        intro e
        injection e with e
        omega, Apart.nil_ _⟩
      clear HM2 Hg3 Hb3 E2 HSt
      generalize w2.heap.size = g2 at *
      go_wp2_with fail
      go_loopw [6, 7, 8] (fun a c d wr => ∃ (k : Nat) (vl vw : Value), vl = a ∧ vw = c ∧ d = .int .i64 k ∧ k ≤ n ∧ Hid (k ≤ (wayW t r k).ways.length) ∧ Hid (PI Tryz.prog 3 9 73 t w.heap.size b n (wayW t r k) vl vw wr) ∧ Hid (Below w.heap.size w wr)) (fun _ _ z _ => n - (intOf z).toNat)
      case atStart => exact ⟨0, _, _, rfl, rfl, rfl, Nat.zero_le _, Lib.hid (Nat.zero_le _), HI3, E3⟩
      case round =>
        obtain ⟨k, vl, vw, rfl, rfl, rfl, hk, HkW, HI, E⟩ := hrel
        have HWl := Lib.hid (show (wayW t r k).ways.length ≤ n by rw [← Hn.out]; exact (HW.out k).len)
        obtain ⟨Aw, cw, hvw, _, _, hrw⟩ := HI.out.way.read
        rw [wrows_len] at hvw
        obtain ⟨q, Hq⟩ : ∃ q, Hid ((wayW t r k).ways.length = q) := ⟨_, Lib.hid rfl⟩
        rw [Hq.out] at hvw HkW HWl
        by_cases hlt : k < q
        · have hkl : k < (wayW t r k).ways.length := by rw [Hq.out]; exact hlt
          obtain ⟨wy, hwy⟩ : ∃ wy, (wayW t r k).ways[k]? = some wy := ⟨_, List.getElem?_eq_getElem hkl⟩
          obtain ⟨nn, p⟩ := wy
          have HWy := Lib.hid hwy
          have HPs := Lib.hid (show p.size ≤ 4096 * 562949953421313 by
            have h1 := HSz.out k k (nn, p) hwy
            have h2 : k * (S + 1) ≤ 4096 * 562949953421313 := Nat.mul_le_mul (by have := Hm.out; omega) (by have := HS2.out; omega)
            exact Nat.le_trans h1 h2)
          have hnl : nn < t.length := (HW.out k).lt (nn, p) (List.mem_of_getElem? hwy)
          obtain ⟨nd, hnd⟩ : ∃ nd, t[nn]? = some nd := ⟨_, List.getElem?_eq_getElem hnl⟩
          have HNs := Lib.hid (show wayW t r (k + 1) = rowE t p (wayW t r k) nd.names by
            show stepY t (wayW t r k) k = _
            rw [stepY_some hwy, namesAt_some hnd])
          have HSk := Lib.hid (fun e he => HS.out nd (List.mem_of_getElem? hnd) e he)
          have HWk := Lib.hid (fun e he => HWf.out nd (List.mem_of_getElem? hnd) e he)
          have HMk := Lib.hid (HMn.out nd (List.mem_of_getElem? hnd))
          have HOk := Lib.hid (HOl.out k)
          have HRw := Lib.hid (HW.out k)
          obtain ⟨x, hx, hc⟩ := HR.out.nodeA hnd
          have d0 : decide ((k : Int) < (q : Int)) = true := by simp; omega
          have z0 : (0 : Int) ≤ (k : Int) := by omega
          have z1 : (k : Int) < (q : Int) := by omega
          have z2 : (0 : Int) ≤ (nn : Int) := by omega
          have z3 : (nn : Int) < (n : Int) := by have := Hn.out; omega
          obtain ⟨aw, hAw⟩ := hrw.adr (k := k) (by rw [wrows_len]; exact hkl) (by decide)
          subst hAw
          have hrow := hrw.row (wrows_at hwy) rfl
          have k0 : wr.cell? (aw.add (k * 2)) = some (.int .i64 (nn : Int)) := by
            have := hrow 0 _ rfl
            rwa [add_zero_addr] at this
          obtain ⟨m, Hmq⟩ : ∃ m, Hid (x.m = m) := ⟨_, Lib.hid rfl⟩
          have c6 : wr.cell? ⟨(ad.add (nn * 7)).block, (ad.add (nn * 7)).off + 6, none⟩ = some (.slice x.S m x.d) := by
            rw [← Hmq.out]
            have hcw := node_at hc 6 _ rfl
            exact (E.out.cell (block_lt_of_cell hcw)).trans hcw
          have HNl := Lib.hid (show nd.names.length = m by rw [← Hmq.out]; exact hx.sn.symm)
          have HNr := Lib.hid hx.names
          have hm4 : m ≤ 4096 := by have := HMk.out; have := HNl.out; omega
          clear hwy hnd hx hc hrow hrw hkl hnl
          subst hvw
          go_wp2_with fail
          go_loopw [6, 7, 51] (fun a c d wi => ∃ (j : Nat) (vl vw : Value), vl = a ∧ vw = c ∧ d = .int .i64 j ∧ j ≤ m ∧ Hid (PI Tryz.prog 3 9 73 t w.heap.size b n (rowE t p (wayW t r k) (nd.names.take j)) vl vw wi) ∧ Hid (Below w.heap.size w wi)) (fun _ _ z _ => m - (intOf z).toNat)
          case atStart => exact ⟨0, _, _, rfl, rfl, rfl, Nat.zero_le _, HI, E⟩
          case round =>
            clear HI E k0 c6
            obtain ⟨j, vl, vw, rfl, rfl, rfl, hj, HI, E⟩ := hrel
            obtain ⟨u, hu⟩ := rowE_pre (t := t) (p := p) (nd.names.take j) (wayW t r k)
            have HWj := Lib.hid (show (rowE t p (wayW t r k) (nd.names.take j)).ways[k]? = some (nn, p) by
              rw [hu, List.getElem?_append_left (List.getElem?_eq_some_iff.1 HWy.out).1]
              exact HWy.out)
            clear hu u
            have HRj := Lib.hid (WY.row (t := t) (p := p) (l := nd.names.take j) HRw.out)
            have HOj := Lib.hid (show (rowE t p (wayW t r k) (nd.names.take j)).out.length ≤ 104096 by
              rw [rowE_out, List.length_append, List.length_map, List.length_take]
              have := HOk.out
              omega)
            by_cases hlj : j < m
            · have hjl : j < nd.names.length := by rw [HNl.out]; exact hlj
              obtain ⟨e, he⟩ : ∃ e, nd.names[j]? = some e := ⟨_, List.getElem?_eq_getElem hjl⟩
              have HNx := Lib.hid (rowE_next (t := t) (p := p) (s := wayW t r k) he)
              have HSe := Lib.hid (HSk.out e (List.mem_of_getElem? he))
              have HWe := Lib.hid (HWk.out e (List.mem_of_getElem? he))
              obtain ⟨s, Hs⟩ : ∃ s, Hid (rowE t p (wayW t r k) (nd.names.take j) = s) := ⟨_, Lib.hid rfl⟩
              rw [Hs.out] at HWj HRj HOj HI HNx
              clear Hs
              obtain ⟨Aw, cw, hvw, _, _, hrw⟩ := HI.out.way.read
              rw [wrows_len] at hvw
              obtain ⟨q2, Hq2⟩ : ∃ q, Hid (s.ways.length = q) := ⟨_, Lib.hid rfl⟩
              have HWm := Lib.hid (show q2 ≤ 4096 by rw [← Hq2.out]; have := HRj.out.len; have := Hn.out; have := Hm.out; omega)
              rw [Hq2.out] at hvw
              have hkl : k < s.ways.length := (List.getElem?_eq_some_iff.1 HWj.out).1
              obtain ⟨aw2, hAw⟩ := hrw.adr (k := k) (by rw [wrows_len]; exact hkl) (by decide)
              subst hAw
              have hrow := hrw.row (wrows_at HWj.out) rfl
              have h4 := HNr.out.below E.out
              have z3 : (k : Int) < (q2 : Int) := by have := Hq2.out; omega
              have d2 : decide ((j : Int) < (m : Int)) = true := by simp; omega
              have q0 : (0 : Int) ≤ (j : Int) := by omega
              have q1 : (j : Int) < (m : Int) := by omega
              obtain ⟨ae, hae⟩ := h4.adr (k := j) (by rw [erows_len]; exact hjl) (by decide)
              rw [hae] at h4
              have HRe := Lib.hid (h4.row (erow_at he) rfl)
              have k0 : wr.cell? (aw2.add (k * 2)) = some (.int .i64 (nn : Int)) := by
                have := hrow 0 _ rfl
                rwa [add_zero_addr] at this
              have k1 := Lib.hid (show wr.cell? ⟨(aw2.add (k * 2)).block, (aw2.add (k * 2)).off + 1, none⟩ = some (.string p) from cell_add k0 (hrow 1 _ rfl))
              clear h4 he hrow hrw k0
              subst hvw
              rw [hae] at *
              go_wp2_with (first | refine wpList_load_cells rfl _ _ rfl (ae.add (j * 2)) rfl _ Tryz.underlying56 (erow e) Tryz.entSize HRe.out ?_ | refine wpList_alloc_row rfl _ rfl _ Tryz.entZero25 ?_)
              apply Stop.go; intro w3 Hg3 Hb3
              go_wp2_with (refine wpList_store_arr rfl _ _ _ rfl _ (ecells e) rfl rfl _ _ Hb3.out Tryz.entSize rfl (by simp [ecells, Value.oneCell']) ?_)
              apply Stop.go; intro w4 Ho4 Hb4
              have D4 := Lib.hid (bonly Hg3.out.1 Ho4.out (Nat.le_refl _))
              have E4 := Lib.hid (bt E.out D4.out)
              have HI4 := Lib.hid (HI.out.ext D4.out)
              have c0 : w4.cell? ⟨wr.heap.size, 0, none⟩ = some (.string e.name) := Hb4.out.cell 0
              have c1 : w4.cell? ⟨(aw2.add (k * 2)).block, (aw2.add (k * 2)).off + 1, none⟩ = some (.string p) := (D4.out.cell (block_lt_of_cell k1.out)).trans k1.out
              have Nl := Lib.hid (show ¬ Has vl wr.heap.size from fun h => by have := (HI.out.out.lt _ h).2; omega)
              have Nb := Lib.hid (show b ≠ wr.heap.size by have := HI.out.map.lt; omega)
              clear Hg3 Hb3 Ho4 HRe E HI D4 k1
              generalize wr.heap.size = ge at *
              obtain ⟨Q1, HQ1⟩ : ∃ Q, Hid (p ++ (⟨#[47]⟩ : ByteArray) = Q) := ⟨_, Lib.hid rfl⟩
              obtain ⟨Q, HQ⟩ : ∃ Q, Hid (joinP p e.name = Q) := ⟨_, Lib.hid rfl⟩
              have HQ2 := Lib.hid (show Q1 ++ e.name = Q by rw [← HQ1.out, ← HQ.out]; rfl)
              have a1 : ∀ w' : World, (Op.stringOp .add p ⟨#[47]⟩).run Tryz.prog w' = .ok (.string Q1) w' := fun w' => by
                rw [← HQ1.out]
                exact run_string_add_sum w' p _ (by have := HPs.out; show p.size + 1 ≤ _; omega)
              have a2 : ∀ w' : World, (Op.stringOp .add Q1 e.name).run Tryz.prog w' = .ok (.string Q) w' := fun w' => by
                rw [← HQ2.out]
                exact run_string_add_sum w' Q1 _ (by
                  rw [← HQ1.out, ByteArray.size_append]
                  have := HPs.out
                  have := HSe.out
                  have := HS2.out
                  show p.size + 1 + e.name.size ≤ _
                  omega)
              clear HQ1 HQ2
              go_wp2_with fail
              go_quiet (fail)
              obtain ⟨w5, hw5⟩ : ∃ x, w4.drewN nq = x := ⟨_, rfl⟩
              have D5 := Lib.hid (show Below w4.heap.size w4 w5 from hw5 ▸ bdrew w4 nq)
              rw [hw5]
              clear hw5 c0 c1 a1 a2
              have E5 := Lib.hid (bt E4.out D5.out)
              have HI5 := Lib.hid (HI4.out.ext D5.out)
              have He5 := Lib.hid (Hb4.out.ext D5.out)
              have Z5 := Lib.hid E5.out.size
              have hl1 : (svals s.out).length + 1 ≤ maxLen := by rw [svals_len]; unfold maxLen; have := HOj.out; omega
              have hl2 : ((svals s.out).length + 1) * 16 ≤ 140737488355328 := by rw [svals_len]; have := HOj.out; omega
              have HL1 := Lib.hid hl1
              have HL2 := Lib.hid hl2
              have HOw := Lib.hid HI5.out.out
              clear HI4 Hb4 D5 E4 hl1 hl2
              go_wp2_with (at_builtin; refine wpList_append_oneS rfl _ _ _ _ rfl Tryz.underlying34 (.string ⟨#[]⟩) 16 Tryz.strInfo25 rfl w.heap.size _ _ rfl HOw.out (.string Q) rfl rfl Z5.out HL1.out HL2.out ?_)
              apply Stop.go; intro v6 w6 HO6 HS6 HN6
              have E6 := Lib.hid (E5.out.trans (HS6.out.below (fun k hk => (HOw.out.lt k hk).1) E5.out.size))
              have HI6 := Lib.hid (HI5.out.path HO6.out HS6.out HN6.out)
              have He6 := Lib.hid (He5.out.save HS6.out Nl.out)
              have c1 : w6.cell? ⟨ge, 1, none⟩ = some (.int .i64 e.ino) := He6.out.cell 1
              have HM6 := Lib.hid HI6.out.map
              clear HO6 HS6 HN6 HI5 He5 HOw HL1 HL2 E5 Z5 Nl
              have HZ : Hid ((∃ n', leftP t s.gone e.ino = some n') ∨ leftP t s.gone e.ino = none) := Lib.hid (by cases leftP t s.gone e.ino with | none => exact Or.inr rfl | some n' => exact Or.inl ⟨n', rfl⟩)
              rcases HZ.out with ⟨n', hn'⟩ | hno
              · have HLn := Lib.hid hn'
                have hl' := leftP_lt hn'
                obtain ⟨x', hx', hc'⟩ := (HR.out.below E6.out).nodeA (List.getElem?_eq_getElem hl')
                have c3 : w6.cell? ⟨(ad.add (n' * 7)).block, (ad.add (n' * 7)).off + 1, none⟩ = some (.int .i64 (t[n']).kind) := by
                  rw [← hx'.kind]
                  exact node_at hc' 1 _ rfl
                have y0 : (0 : Int) ≤ (n' : Int) := by omega
                have y1 : (n' : Int) < (n : Int) := by have := Hn.out; omega
                have HKn := Lib.hid (kindAt_some (List.getElem?_eq_getElem hl'))
                generalize (t[n']).kind = kd at *
                have HU := Lib.hid (show (lftM t s.gone e.ino).getD (.int .i64 0) = .int .i64 (n' : Int) by unfold lftM; rw [HLn.out]; rfl)
                have HB := Lib.hid (show (lftM t s.gone e.ino).isSome = true by unfold lftM; rw [HLn.out]; rfl)
                clear hn' hx' hc' hl' HZ
                by_cases hk2 : kd = 2
                · have hkb : (kd == 2) = true := by simpa using hk2
                  have HSt := Lib.hid (stepE_dir (t := t) (p := p) (s := s) (e := e) HLn.out (by rw [HKn.out]; exact hk2))
                  rw [HQ.out] at HSt
                  clear hk2
                  go_wp2_with (first | refine wpList_lookZ_ok rfl _ _ _ rfl _ _ Tryz.underlying3 Tryz.underlying70 Tryz.zeroInt25 rfl HM6.out e.ino rfl HWe.out _ HU.out true HB.out ?_ | refine wpList_mapZ_delete rfl _ _ _ _ rfl _ Tryz.underlying3 Tryz.underlying70 rfl HM6.out e.ino rfl HWe.out ?_)
                  apply Stop.go; intro w7 HM7 Ho7
                  have E7 := Lib.hid (bonly E6.out Ho7.out HI6.out.lo)
                  have HI7 := Lib.hid (HI6.out.strike HM7.out Ho7.out)
                  clear HI6 HM6 HM7 Ho7 E6 c1 c3
                  go_wp2_with (refine wpList_build_row rfl _ _ _ rfl Tryz.underlying74 2 _ _ Tryz.wayInfo (by decide) (by decide) #[.int .i64 (n' : Int), .string Q] rfl rfl ?_)
                  apply Stop.go; intro w8 Hg8 Hb8
                  have E8 := Lib.hid (bt E7.out Hg8.out.1)
                  have HI8 := Lib.hid (HI7.out.ext Hg8.out.1)
                  have HW8 := Lib.hid HI8.out.way
                  have Z8 := Lib.hid E8.out.size
                  have HL1 := Lib.hid (show (wrows s.ways).length + 1 ≤ 140737488355328 by rw [wrows_len, Hq2.out]; have := HWm.out; omega)
                  have HL2 := Lib.hid (show ((wrows s.ways).length + 1) * 24 ≤ 140737488355328 by rw [wrows_len, Hq2.out]; have := HWm.out; omega)
                  generalize w7.heap.size = g7 at *
                  clear Hg8 HI7 E7
                  go_wp2_with (refine wpList_append_rowS rfl _ _ _ _ rfl Tryz.underlying74 2 _ _ Tryz.wayInfo rfl (by decide) w.heap.size _ _ rfl HW8.out _ #[.int .i64 (n' : Int), .string Q] rfl Hb8.out rfl (by simp [Value.oneCell']) Z8.out HL1.out HL2.out ?_)
                  apply Stop.go; intro gn cn w9 HO9 HS9 HN9
                  have HI9 := Lib.hid (HI8.out.way_ (q := (n', Q)) HO9.out HS9.out HN9.out)
                  have E9 := Lib.hid (E8.out.trans (HS9.out.below (fun k hk => (HW8.out.lt k hk).1) E8.out.size))
                  rw [wrows_len, Hq2.out] at HI9
                  rw [wrows_len, Hq2.out]
                  clear HO9 HS9 HN9 HI8 HW8 E8
                  go_wp2_with fail
                  go_roundw
                  case rel => exact ⟨j + 1, _, _, rfl, rfl, by go_num, by omega, Lib.hid (by rw [HNx.out, HSt.out]; exact HI9.out), E9⟩
                  case measure => simp [intOf]; omega
                · have hkb : (kd == 2) = false := by simpa using hk2
                  have HSt := Lib.hid (stepE_off (t := t) (p := p) (s := s) (e := e) HLn.out (by rw [HKn.out]; exact hk2))
                  rw [HQ.out] at HSt
                  clear hk2
                  go_wp2_with (refine wpList_lookZ_ok rfl _ _ _ rfl _ _ Tryz.underlying3 Tryz.underlying70 Tryz.zeroInt25 rfl HM6.out e.ino rfl HWe.out _ HU.out true HB.out ?_)
                  go_roundw
                  case rel => exact ⟨j + 1, _, _, rfl, rfl, by go_num, by omega, Lib.hid (by rw [HNx.out, HSt.out]; exact HI6.out), E6⟩
                  case measure => simp [intOf]; omega
              · have HSt := Lib.hid (stepE_no (t := t) (p := p) (s := s) (e := e) hno)
                rw [HQ.out] at HSt
                have HU := Lib.hid (show (lftM t s.gone e.ino).getD (.int .i64 0) = .int .i64 0 by unfold lftM; rw [hno]; rfl)
                have HB := Lib.hid (show (lftM t s.gone e.ino).isSome = false by unfold lftM; rw [hno]; rfl)
                clear hno HZ
                go_wp2_with (refine wpList_lookZ_ok rfl _ _ _ rfl _ _ Tryz.underlying3 Tryz.underlying70 Tryz.zeroInt25 rfl HM6.out e.ino rfl HWe.out _ HU.out false HB.out ?_)
                go_roundw
                case rel => exact ⟨j + 1, _, _, rfl, rfl, by go_num, by omega, Lib.hid (by rw [HNx.out, HSt.out]; exact HI6.out), E6⟩
                case measure => simp [intOf]; omega
            · obtain rfl : j = m := by omega
              have d2 : decide ((j : Int) < (j : Int)) = false := by simp
              have HT := Lib.hid (show nd.names.take j = nd.names by rw [← HNl.out, List.take_length])
              rw [HT.out, ← HNs.out] at HI
              rw [HT.out, ← HNs.out] at HWj
              have HkN := Lib.hid (show k + 1 ≤ (wayW t r (k + 1)).ways.length from (List.getElem?_eq_some_iff.1 HWj.out).1)
              have hkn : k + 1 ≤ n := by have := HWl.out; omega
              have hn4 := Hm.out
              go_wp2_with fail
              go_roundw
              case rel => exact ⟨k + 1, _, _, rfl, rfl, by go_num, hkn, HkN, HI, E⟩
              case measure => simp [intOf]; omega
        · obtain rfl : k = q := by have := HkW.out; omega
          have d0 : decide ((k : Int) < (k : Int)) = false := by simp
          have HE := Lib.hid (HEnd.out k Hq.out)
          rw [HE.out] at HOut
          have HO := Lib.hid HI.out.out
          have hl := HI.out.out.read
          rw [svals_len] at hl
          obtain ⟨Al, cl, rfl, _, _, hrl⟩ := hl
          have HRl := Lib.hid hrl
          have HOk := Lib.hid (HOl.out k)
          subst hvw
          clear hrl hrw
          obtain ⟨L, HL⟩ : ∃ L, Hid ((wayW t r k).out = L) := ⟨_, Lib.hid rfl⟩
          rw [HL.out] at HRl HOk HOut ⊢
          obtain ⟨ln, Hln⟩ : ∃ ln, Hid (L.length = ln) := ⟨_, Lib.hid rfl⟩
          rw [Hln.out] at HOk ⊢
          go_wp2_with fail
          refine (nsort_any Al ln cl L Hln.out HOk.out _ HRl.out).mono ?_; rintro e w5 ⟨u, rfl, hu, hb5⟩
          have E5 := Lib.hid (bt E.out hb5)
          have HU := Lib.hid (hu.low E.out.size)
          clear hb5 hu
          go_wp2_with fail
          go_ret
          exact ⟨_, rfl, by rw [HOut.out]; exact HU.out, E5.out⟩
    · have hkb : (rt.kind == 2) = false := by simpa using hk2
      have HP0 := Lib.hid (show pathP t = [] by
        unfold pathP outP
        rw [HF.out]
        simp only
        rw [if_neg (by rw [kindAt_some HRt.out]; exact hk2)]
        exact sortS_nil)
      clear hk2
      go_wp2_with (refine wpList_lookZ_ok rfl _ _ _ rfl _ _ Tryz.underlying3 Tryz.underlying70 Tryz.zeroInt25 rfl HM.out 1 rfl h1w.out (.int .i64 (r : Int)) (by rw [HL1.out]; rfl) true (by rw [HL1.out]; rfl) ?_)
      go_ret
      exact ⟨_, rfl, by rw [HP0.out]; exact OwnC.nil_ _ _ _, E1.out⟩

end Go.Proofs.YtkakihbfhmiabaaGreat
