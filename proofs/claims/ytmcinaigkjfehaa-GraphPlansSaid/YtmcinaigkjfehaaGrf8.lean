/-
  The contract of package graph's write.
-/
import Derived.Test.YtmcinaigkjfehaaGrf6
import Derived.Deep.LoopGhost
namespace Go.Proofs.Ytmcinaigkjfehaa
open Go.RowKit

/-- Those of a block that are next are taken up. -/
theorem WM.take {w0 w w1 : World} {g : Gs} {A : Option Addr} {n cap B : Nat} {D : Nat → Bool} {O : Nat → Nat} {S : Ix → Value} {X : Ix → List Int} {m : Int → Option Value} {q : Nat} (h : WM w0 w g A n cap B D O S X m q) {b : Int} (hm : MapV w1 Try.prog 3 g.m (q + 1) (updM m b (some nilS))) (hg : w.grownBy w1 (some g.m)) :
    WM w0 w1 g A n cap B D O (updF (updF S Ix.now (S (Ix.nx b))) (Ix.nx b) nilS) (updF (updF X Ix.now (X (Ix.nx b))) (Ix.nx b) []) (updM m b (some nilS)) (q + 1) := by
  have hB1 : ∀ {x : Nat} {t : TypeId} {cs : Array Value}, x ≠ g.m → Blk w x t cs → Blk w1 x t cs := fun {x t cs} hne hblk =>
    (hg.block x hblk.lt (fun e => by injection e with e; exact hne e)).trans hblk
  refine ⟨?_, h.ok, Nat.le_trans h.bB hg.size, hB1 h.ok.sm h.st, hB1 h.ok.dm h.dn, hB1 h.ok.om h.op, ?_, (h.fam.hi (HiS.of_grown hg h.ok.hi.2.2.2.2)).move (Ix.now_nx b).symm, hm, fun c => ?_⟩
  · exact h.low.grown hg h.low.size (fun k e => by injection e with e; have := h.ok.lo; omega)
  · rw [vc_congr (fun k _ => (updF_other _ nilS (Ix.beh_nx k b)).trans (updF_other S _ (Ix.beh_now k)))]
    exact hB1 h.ok.hm h.bh
  · unfold updM
    by_cases e : c = b
    · subst e; rw [if_pos rfl, updF_same]; rfl
    · rw [if_neg e, updF_other _ _ (Ix.nx_inj e), updF_other _ _ (Ix.now_nx c).symm]; exact h.mm c
/-- The parts of a writing that change. -/
def Gs.G (g : Gs) (r : Nat) : Prop := r = g.d ∨ r = g.o ∨ r = g.m
theorem Turns.moved {G : Nat → Prop} {w w' : World} {S S' : Ix → Value} (h : Turns G w w' S S') (b : Int) : Turns G w w' S (updF (updF S' Ix.now (S' (Ix.nx b))) (Ix.nx b) nilS) :=
  h.vals fun i r hr => by
    by_cases e : i = Ix.nx b
    · subst e; rw [updF_same] at hr; cases hr
    · rw [updF_other _ _ e] at hr
      by_cases e2 : i = Ix.now
      · subst e2; rw [updF_same] at hr; exact ⟨_, hr⟩
      · rw [updF_other _ _ e2] at hr; exact ⟨_, hr⟩
theorem opn_le {l : List Cg} {R : Nat → List Nat} {n : Nat} (hR : RowsOK l n R) (D : Nat → Bool) {i : Nat} (hi : i < n) : opn R D i ≤ n := Nat.le_trans (List.length_filter_le _ _) (hR.len hi)

set_option maxRecDepth 100000 in
set_option maxHeartbeats 16000000 in
theorem write_any (w0 : World) (g : Gs) (A : Option Addr) (n cap B : Nat) (D : Nat → Bool) (O : Nat → Nat) (N : Int → List Nat) (S : Ix → Value) (X : Ix → List Int) (m : Int → Option Value) (q : Nat) (l : List Cg) (hl : l.length = n) (hm : n ≤ 4095) (hr : RdL RdC w0 A 5 l) (R : Nat → List Nat) (hR : RowsOK l n R) (b : Int) (hwb : (Lit.int .i64 b).wf = true)
    (hWs : Ws l R n D O N) (hWX : WX X N (behR R n)) (hq : q + 5000 * cntU n D ≤ 5000 * (n + 1)) (w : World) (hM : WM w0 w g A n cap B D O S X m q) :
    Calls Try.prog 42 #[.pointer (some ⟨g.s, 0, none⟩), .int .i64 b] w fun e w' => e = .returned (.tuple #[]) ∧ ∃ D' O' N' S' X' m' q', WM w0 w' g A n cap B D' O' S' X' m' q' ∧ Ws l R n D' O' N' ∧ WX X' N' (behR R n) ∧ Wrote l R b D D' ∧ q' + 5000 * cntU n D' ≤ 5000 * (n + 1) ∧ X' Ix.row = X Ix.row ∧ S' Ix.row = S Ix.row ∧ Turns g.G w w' S S' := by
  have Hl := Lib.hid hl
  have Hr := Lib.hid hr
  have HR := Lib.hid hR
  have Hwb := Lib.hid hwb
  have HWs := Lib.hid (hWs.wi b)
  have HWX := Lib.hid hWX
  have HM := Lib.hid hM
  have Hq := Lib.hid hq
  clear hl hr hR hwb hWs hWX hM hq
  go_enter Try.func42, Try.ntmps42
  go_wp2_with fail
  go_loopg [] (cntU n D) (fun gh wr => ∃ (D1 : Nat → Bool) (O1 : Nat → Nat) (N1 : Int → List Nat) (S1 : Ix → Value) (X1 : Ix → List Int) (m1 : Int → Option Value) (q1 : Nat), WM w0 wr g A n cap B D1 O1 S1 X1 m1 q1 ∧ Wi l R n b D D1 O1 N1 [] [] ∧ WX X1 N1 (behR R n) ∧ q1 + 5000 * cntU n D1 ≤ 5000 * (n + 1) ∧ X1 Ix.row = X Ix.row ∧ S1 Ix.row = S Ix.row ∧ cntU n D1 ≤ gh ∧ Turns g.G w wr S S1)
  case atStart => exact ⟨D, O, N, S, X, m, q, HM.out, HWs.out, HWX.out, Hq.out, rfl, rfl, Nat.le_refl _, Turns.refl _ _ _⟩
  case round =>
    obtain ⟨D1, O1, N1, S1, X1, m1, q1, hM, hWi, hWX, hq, hXr, hSr, hg, hT0⟩ := hrel
    have HT1 := Lib.hid hT0
    clear hT0
    have HM1 := Lib.hid hM
    have HWi := Lib.hid hWi
    have HWX1 := Lib.hid hWX
    have Hq1 := Lib.hid hq
    have HRow := Lib.hid (And.intro hXr hSr)
    have Hgh := Lib.hid hg
    clear hM hWi hWX hq hXr hSr hg
    have ho := HM1.out.fam.own (Ix.nx b)
    rw [HWX1.out.nx] at ho
    obtain ⟨An, cn, hv, hcn, hcm, _⟩ := ho.ints
    rw [ns_len] at hv hcn
    have hlen : (N1 b).length ≤ n := nodup_len (HWi.out.nd b) (fun x hx => (HWi.out.nb b x hx).1)
    have hu : (m1 b).getD nilS = .slice An (N1 b).length cn := by rw [HM1.out.mm b, hv]
    have HV := Lib.hid hv
    obtain ⟨T, hT⟩ : ∃ T, N1 b = T := ⟨_, rfl⟩
    have HT := Lib.hid hT
    rw [hT] at hu hlen hcn
    have c4 : wr.cell? ⟨g.s, 4, none⟩ = some (.map (some g.m)) := HM1.out.st.cell 4
    obtain ⟨Ln, hLn⟩ : ∃ Ln, T.length = Ln := ⟨_, rfl⟩
    have HLn := Lib.hid hLn
    rw [hLn] at hu hlen hcn
    have HU := Lib.hid hu
    clear ho hv hT hLn hu
    by_cases h0 : Ln = 0
    · have HN : Hid (N1 b = []) := Lib.hid (by rw [HT.out]; exact List.eq_nil_of_length_eq_zero (by rw [HLn.out, h0]))
      have hln := Hl.out
      subst h0
      go_wp2_with (refine wpList_lookV rfl _ _ _ rfl _ _ Try.underlying3 Try.underlying66 Try.intsZeroG rfl HM1.out.map b rfl Hwb.out _ HU.out ?_)
      go_end0
      exact ⟨rfl, D1, O1, N1, S1, X1, m1, q1, HM1.out, HWi.out.ws, HWX1.out, by subst hln; exact HWi.out.wrote HN.out, Hq1.out, HRow.out.1, HRow.out.2, HT1.out⟩
    · have hln0 : 0 < l.length := by have := Hl.out; omega
      obtain ⟨ad, _, _, _, _, _, _, rfl, _⟩ := Hr.out.cgk hln0
      clear hln0
      have d0 : decide (0 < Ln) = true := by simp; omega
      have d1 : decide ((0 : Int) < (Ln : Int)) = true := by simp; omega
      have hqm : q1 < maxLen := by have := Hq1.out; unfold maxLen; omega
      go_wp2_with (first | refine wpList_lookV rfl _ _ _ rfl _ _ Try.underlying3 Try.underlying66 Try.intsZeroG rfl HM1.out.map b rfl Hwb.out _ HU.out ?_ | refine wpList_mapV_store rfl _ _ _ _ rfl _ _ Try.underlying3 Try.underlying66 rfl HM1.out.map hqm b rfl Hwb.out nilS rfl ?_)
      apply Stop.go; intro w4 Hm4 Hg4
      have HM4 := Lib.hid (HM1.out.take Hm4.out Hg4.out)
      have HWi4 := Lib.hid HWi.out.up
      have HT4 := Lib.hid ((HT1.out.trans (Turns.of_grown S1 Hg4.out (show g.G g.m from Or.inr (Or.inr rfl)))).moved b)
      rw [HT.out] at HWi4
      have HX4 := Lib.hid (show WX (updF (updF X1 Ix.now (X1 (Ix.nx b))) (Ix.nx b) []) (updM' N1 b []) (behR R n) ∧ (updF (updF X1 Ix.now (X1 (Ix.nx b))) (Ix.nx b) []) Ix.now = ns T ∧ (updF (updF X1 Ix.now (X1 (Ix.nx b))) (Ix.nx b) []) Ix.row = X Ix.row from
        ⟨⟨fun k => by rw [updF_other _ _ (Ix.beh_nx k b), updF_other _ _ (Ix.beh_now k)]; exact HWX1.out.beh k, fun c => by
          unfold updM'
          by_cases e : c = b
          · subst e; rw [updF_same, if_pos rfl]; rfl
          · rw [updF_other _ _ (Ix.nx_inj e), updF_other _ _ (Ix.now_nx c).symm, if_neg e]; exact HWX1.out.nx c⟩,
          by rw [updF_other _ _ (Ix.now_nx b), updF_same, HWX1.out.nx, HT.out], by rw [updF_other _ _ (Ix.row_nx b), updF_other _ _ Ix.row_now]; exact HRow.out.1⟩)
      have HS4 := Lib.hid (show (updF (updF S1 Ix.now (S1 (Ix.nx b))) (Ix.nx b) nilS) Ix.now = .slice An Ln cn ∧ (updF (updF S1 Ix.now (S1 (Ix.nx b))) (Ix.nx b) nilS) Ix.row = S Ix.row from
        ⟨by rw [updF_other _ _ (Ix.now_nx b), updF_same, HV.out, HT.out, HLn.out], by rw [updF_other _ _ (Ix.row_nx b), updF_other _ _ Ix.row_now]; exact HRow.out.2⟩)
      have Hq4 : Hid (q1 + 1 + 5000 * cntU n D1 + 900 * 0 ≤ 5000 * (n + 1) + 1) := Lib.hid (by have := Hq1.out; omega)
      clear HM1 HWi HWX1 HRow Hm4 Hg4 c4 HU HV Hq1
      generalize updF (updF S1 Ix.now (S1 (Ix.nx b))) (Ix.nx b) nilS = S4 at *
      generalize updF (updF X1 Ix.now (X1 (Ix.nx b))) (Ix.nx b) [] = X4 at *
      generalize updM m1 b (some nilS) = m4 at *
      generalize updM' N1 b [] = N4 at *
      obtain ⟨CC, hCC⟩ : ∃ C, cntU n D1 = C := ⟨_, rfl⟩
      have HCC := Lib.hid hCC
      clear hCC
      go_wp2_with fail
      go_loopw [30] (fun i wr => ∃ (t : Nat) (D2 : Nat → Bool) (O2 : Nat → Nat) (N2 : Int → List Nat) (S2 : Ix → Value) (X2 : Ix → List Int) (m2 : Int → Option Value) (q2 : Nat), t ≤ Ln ∧ i = .int .i64 t ∧ WM w0 wr g (some ad) n cap B D2 O2 S2 X2 m2 q2 ∧ Wi l R n b D D2 O2 N2 (T.drop t) [] ∧ (WX X2 N2 (behR R n) ∧ X2 Ix.now = ns T ∧ X2 Ix.row = X Ix.row) ∧ (S2 Ix.now = .slice An Ln cn ∧ S2 Ix.row = S Ix.row) ∧ q2 + 5000 * cntU n D2 + 900 * t ≤ 5000 * (n + 1) + 1 ∧ cntU n D2 + t ≤ CC ∧ Turns g.G w wr S S2) (fun i _ => Ln - (intOf i).toNat)
      case atStart => exact ⟨0, D1, O1, N4, S4, X4, m4, q1 + 1, Nat.zero_le _, rfl, HM4.out, by rw [List.drop_zero]; exact HWi4.out, HX4.out, HS4.out, Hq4.out, Nat.le_of_eq HCC.out, HT4.out⟩
      case round =>
        obtain ⟨t, D2, O2, N2, S2, X2, m2, q2, ht, rfl, hM, hWi, hX, hS, hq, hc, hT⟩ := hrel
        have HT2 := Lib.hid hT
        clear hT
        have HM2 := Lib.hid hM
        have HWi2 := Lib.hid hWi
        have HX2 := Lib.hid hX
        have HS2 := Lib.hid hS
        have Hq2 := Lib.hid hq
        have Hc2 := Lib.hid hc
        clear hM hWi hX hS hq hc
        by_cases hlt : t < Ln
        · have d2 : decide ((t : Int) < Ln) = true := by simpa using hlt
          have htT : t < T.length := by have := HLn.out; omega
          have hrd := HM2.out.fam.own Ix.now
          rw [HS2.out.1, HX2.out.2.1] at hrd
          obtain ⟨An', cn', e', _, _, hrc⟩ := hrd.ints
          rw [ns_len, HLn.out] at e'
          injection e' with e1 _ e3
          subst e1
          subst e3
          obtain ⟨an, rfl, k0⟩ := hrc.int t (by rw [ns_len]; exact htT)
          rw [ns_get htT] at k0
          have hdr := List.drop_eq_getElem_cons htT
          have hW2 := HWi2.out
          rw [hdr] at hW2
          obtain ⟨hda, hab⟩ := hW2.tb T[t] (List.mem_cons.2 (Or.inl rfl))
          have hDa := ((hW2.mem T[t] hda).1 (Or.inr (List.mem_cons.2 (Or.inl rfl)))).1
          have HWd := Lib.hid (hW2.done HR.out)
          have Hcnt := Lib.hid (cntU_less hDa hda)
          obtain ⟨a, ha⟩ : ∃ a, T[t] = a := ⟨_, rfl⟩
          rw [ha] at k0 hda HWd Hcnt
          have z1 : (a : Int) < n := by omega
          have c1 : wr.cell? ⟨g.s, 1, none⟩ = some (.slice (some ⟨g.d, 0, none⟩) n n) := HM2.out.st.cell 1
          clear hrd hrc hdr hW2 hab hDa ha
          go_wp2_with (refine wpList_store_cell rfl _ _ _ rfl Try.boolSzG g.d a rfl (.bool true) rfl rfl rfl _ _ HM2.out.dn (by rw [fbools_size]; exact hda) ?_)
          apply Stop.go; intro w5 Ho5 Hb5
          rw [fbools_set] at Hb5
          have HM5 := Lib.hid (HM2.out.only Ho5.out (Or.inl rfl) (D' := addD D2 a) (O' := O2) (fun _ => Hb5.out) (fun e => absurd rfl e) (fun e => absurd e HM2.out.ok.dO) (fun _ => rfl))
          have HT5 := Lib.hid (HT2.out.trans (Turns.of_only S2 Ho5.out (show g.G g.d from Or.inl rfl)))
          clear k0 c1 Ho5 Hb5 HM2 HWi2
          have c3 : w5.cell? ⟨g.s, 3, none⟩ = some (.slice (some ⟨g.h, 0, none⟩) n n) := HM5.out.st.cell 3
          have hob := HM5.out.fam.own (Ix.beh a)
          rw [HX2.out.1.beh] at hob
          obtain ⟨Ab, cb, hvb, _, _, _⟩ := hob.ints
          rw [ns_len] at hvb
          have kb : w5.cell? ⟨g.h, a, none⟩ = some (S2 (Ix.beh a)) := by rw [HM5.out.bh.cell, vc_get _ hda]
          rw [hvb] at kb
          have HVb := Lib.hid hvb
          have hlU := behR_len R n a
          obtain ⟨U, hU⟩ : ∃ U, behR R n a = U := ⟨_, rfl⟩
          have HU := Lib.hid hU
          rw [hU] at kb HVb hlU HWd
          clear hob hvb hU
          go_wp2_with fail
          clear kb c3
          obtain ⟨wc, hwc⟩ : ∃ x, x = w5 := ⟨_, rfl⟩
          subst hwc
          go_loopw [48] (fun i wr => ∃ (j : Nat) (O3 : Nat → Nat) (N3 : Int → List Nat) (S3 : Ix → Value) (X3 : Ix → List Int) (m3 : Int → Option Value) (q3 : Nat), j ≤ U.length ∧ i = .int .i64 j ∧ WM w0 wr g (some ad) n cap B (addD D2 a) O3 S3 X3 m3 q3 ∧ Wi l R n b D (addD D2 a) O3 N3 (T.drop (t + 1)) (U.drop j) ∧ (WX X3 N3 (behR R n) ∧ X3 Ix.now = ns T ∧ X3 Ix.row = X Ix.row) ∧ (S3 Ix.now = .slice (some an) Ln cn ∧ S3 Ix.row = S Ix.row) ∧ S3 (Ix.beh a) = .slice Ab U.length cb ∧ q3 ≤ q2 + j ∧ Turns g.G w wr S S3) (fun i _ => U.length - (intOf i).toNat)
          case atStart => exact ⟨0, O2, N2, S2, X2, m2, q2, Nat.zero_le _, rfl, HM5.out, by rw [List.drop_zero]; exact HWd.out, HX2.out, HS2.out, HVb.out, Nat.le_refl _, HT5.out⟩
          case round =>
            obtain ⟨j, O3, N3, S3, X3, m3, q3, hj, rfl, hM, hWi, hX, hS, hSb, hq, hT⟩ := hrel
            have HT3 := Lib.hid hT
            clear hT
            have HM3 := Lib.hid hM
            have HWi3 := Lib.hid hWi
            have HX3 := Lib.hid hX
            have HS3 := Lib.hid hS
            have HSb := Lib.hid hSb
            have Hq3 := Lib.hid hq
            clear hM hWi hX hS hSb hq
            by_cases hjl : j < U.length
            · have d3 : decide ((j : Int) < U.length) = true := by simpa using hjl
              have hrd := HM3.out.fam.own (Ix.beh a)
              rw [HSb.out, HX3.out.1.beh, HU.out] at hrd
              obtain ⟨Ab', cb', e', _, _, hrc⟩ := hrd.ints
              rw [ns_len] at e'
              injection e' with e1 _ e3
              subst e1
              subst e3
              obtain ⟨ab, rfl, k3⟩ := hrc.int j (by rw [ns_len]; exact hjl)
              rw [ns_get hjl] at k3
              have hW3 := HWi3.out
              rw [List.drop_eq_getElem_cons hjl] at hW3
              obtain ⟨hin, _⟩ := hW3.ub U[j] (List.mem_cons.2 (Or.inl rfl))
              obtain ⟨hO1, hWt⟩ := hW3.tell
              have hOb : O3 U[j] ≤ 4097 := by
                have h1 := hW3.op U[j] hin
                have h2 := opn_le HR.out (addD D2 a) hin
                rw [h1]
                split <;> omega
              obtain ⟨i, hi⟩ : ∃ i, U[j] = i := ⟨_, rfl⟩
              rw [hi] at k3 hin hO1 hWt hOb
              have HWt := Lib.hid hWt
              obtain ⟨v, hv⟩ : ∃ v, O3 i - 1 = v := ⟨_, rfl⟩
              rw [hv] at HWt
              have q5 : IntKind.i64.wrap ((O3 i : Int) - 1) = (v : Int) := by rw [IntKind.wrap_i64]; omega
              have c2 : wr.cell? ⟨g.s, 2, none⟩ = some (.slice (some ⟨g.o, 0, none⟩) n n) := HM3.out.st.cell 2
              have ko : wr.cell? ⟨g.o, i, none⟩ = some (.int .i64 (O3 i : Int)) := by rw [HM3.out.op.cell, zc_get _ hin]; rfl
              have z3 : (i : Int) < n := by omega
              have hnl : (N3 (cgA l i).block).length ≤ n := nodup_len (hW3.nd _) (fun x hx => (hW3.nb _ x hx).1)
              have Hnl := Lib.hid hnl
              clear hrd hrc hW3 hWt hO1 hOb hv hi hnl
              go_wp2_with (refine wpList_store_cell rfl _ _ _ rfl Try.intSzG g.o i rfl (.int .i64 v) rfl rfl rfl _ _ HM3.out.op (by rw [zc_size]; exact hin) ?_)
              apply Stop.go; intro w6 Ho6 Hb6
              rw [zc_set, oz_upd] at Hb6
              have HM6 := Lib.hid (HM3.out.only Ho6.out (Or.inr rfl) (D' := addD D2 a) (O' := updF' O3 i v) (fun e => absurd e HM3.out.ok.dO.symm) (fun _ => rfl) (fun _ => Hb6.out) (fun e => absurd rfl e))
              have hX6 : (X3 (Ix.nx (cgA l i).block)).length ≤ 4096 := by rw [HX3.out.1.nx, ns_len]; have := Hnl.out; omega
              have hq6 : q3 ≤ 1000000000 := by have := Hq3.out; have := Hq2.out; omega
              have HT6 := Lib.hid (HT3.out.trans (Turns.of_only S3 Ho6.out (show g.G g.o from Or.inr (Or.inl rfl))))
              clear k3 c2 ko Ho6 Hb6 HM3
              go_wp2_with fail
              refine (ask_any w0 g ad n cap B _ _ S3 X3 m3 q3 l Hl.out Hr.out i hin hq6 hX6 _ HM6.out).mono ?_; rintro e w7 ⟨rfl, S7, X7, m7, hM7, hX7, hS7, hSn7, hSr7, hT7⟩
              have e0 : updF' O3 i v i = v := by unfold updF'; rw [if_pos rfl]
              rw [e0] at hX7
              have HM7 := Lib.hid hM7
              have HX7 := Lib.hid (show WX X7 (if v = 0 then updM' N3 (cgA l i).block (N3 (cgA l i).block ++ [i]) else N3) (behR R n) ∧ X7 Ix.now = ns T ∧ X7 Ix.row = X Ix.row from by
                rw [hX7]
                by_cases h0 : v = 0
                · rw [if_pos h0, if_pos h0]
                  refine ⟨⟨fun k => by rw [updF_other _ _ (Ix.beh_nx k _)]; exact HX3.out.1.beh k, fun c => ?_⟩, by rw [updF_other _ _ (Ix.now_nx _)]; exact HX3.out.2.1, by rw [updF_other _ _ (Ix.row_nx _)]; exact HX3.out.2.2⟩
                  unfold updM'
                  by_cases e : c = (cgA l i).block
                  · subst e; rw [updF_same, if_pos rfl, HX3.out.1.nx, ns_snoc]
                  · rw [updF_other _ _ (Ix.nx_inj e), if_neg e]; exact HX3.out.1.nx c
                · rw [if_neg h0, if_neg h0]
                  exact HX3.out)
              have HS7 := Lib.hid (And.intro (And.intro (hSn7.trans HS3.out.1) (hSr7.trans HS3.out.2)) ((hS7 a).trans HSb.out))
              have HT7 := Lib.hid (HT6.out.trans (hT7.mono (G' := g.G) (fun r _ h => Or.inr (Or.inr h))))
              clear hM7 hX7 hS7 hSn7 hSr7 hT7 e0 hX6 hq6
              go_wp2_with fail
              go_roundw
              case rel => exact ⟨j + 1, _, _, S7, X7, m7, q3 + 1, by omega, by go_num, HM7.out, HWt.out, HX7.out, HS7.out.1, HS7.out.2, by have := Hq3.out; omega, HT7.out⟩
              case measure => simp [intOf]; omega
            · have d3 : decide ((j : Int) < U.length) = false := by simpa using hjl
              have hjn : U.length = j := by omega
              have HW4 := Lib.hid (show Wi l R n b D (addD D2 a) O3 N3 (T.drop (t + 1)) [] from by
                have h := HWi3.out
                rwa [show U.drop j = [] from List.drop_of_length_le (by omega)] at h)
              have Hq5 : Hid (q3 + 5000 * cntU n (addD D2 a) + 900 * (t + 1) ≤ 5000 * (n + 1) + 1) := Lib.hid (by have := Hq3.out; have := Hq2.out; have := Hcnt.out; omega)
              have Hc5 : Hid (cntU n (addD D2 a) + (t + 1) ≤ CC) := Lib.hid (by have := Hc2.out; have := Hcnt.out; omega)
              go_wp2_with fail
              go_roundw
              case rel => exact ⟨t + 1, addD D2 a, O3, N3, S3, X3, m3, q3, by omega, by go_num, HM3.out, HW4.out, HX3.out, HS3.out, Hq5.out, Hc5.out, HT3.out⟩
              case measure => simp [intOf]; omega
        · have d2 : decide ((t : Int) < Ln) = false := by simpa using hlt
          have htn : Ln = t := by omega
          have HW4 := Lib.hid (show Wi l R n b D D2 O2 N2 [] [] from by
            have h := HWi2.out
            rwa [List.drop_of_length_le (by have := HLn.out; omega)] at h)
          have Hq5 : Hid (q2 + 5000 * cntU n D2 ≤ 5000 * (n + 1)) := Lib.hid (by have := Hq2.out; omega)
          go_wp2_with fail
          go_roundg (cntU n D2)
          case measure =>
            have := Hc2.out
            have := Hgh.out
            have := HCC.out
            omega
          case rel => exact ⟨D2, O2, N2, S2, X2, m2, q2, HM2.out, HW4.out, HX2.out.1, Hq5.out, HX2.out.2.2, HS2.out.2, Nat.le_refl _, HT2.out⟩

end Go.Proofs.Ytmcinaigkjfehaa
