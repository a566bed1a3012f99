/-
  Texts of this claim joined: Grf4, Grf5.
-/
import Derived.Test.YtpmbpklbiocclaaGreatGrf3
import Derived.Test.YtpmbpklbiocclaaGreatGrAO
import Derived.Test.YtpmbpklbiocclaaGreatGrBG
import Derived.BigRegion

/-
  The contracts of package graph's all, and All.
-/
namespace Go.Proofs.YtpmbpklbiocclaaGreat
open Go.RowKit

theorem RdL.take {α : Type} {D : Rds α} {w : World} {A : Option Addr} {N : Nat} {l : List α} (h : RdL D w A N l) (m : Nat) : RdL D w A N (l.take m) := by
  obtain ⟨rows, h1, h2, h3, h4⟩ := h
  refine ⟨rows.take m, fun r hr => h1 r (List.mem_of_mem_take hr), fun k hk i hi => ?_, by simp [h3], fun k hk hk' => ?_⟩
  · have hk2 : k < rows.length := by simp at hk; omega
    have := h2 k hk2 i hi
    rwa [show (rows.take m)[k] = rows[k] by simp]
  · simp only [List.getElem_take]
    exact h4 k (by simp at hk; omega) (by simp at hk'; omega)
theorem mayN_take {b : Int} {l : List Cg} (m : Nat) (h : mayN b l = true) : mayN b (l.take m) = true := by
  induction l generalizing b m with
  | nil => rw [List.take_nil]; rfl
  | cons c l ih =>
    cases m with
    | zero => rfl
    | succ m =>
      obtain ⟨h1, h2⟩ := mayN_cons.1 h
      rw [List.take_succ_cons]
      exact mayN_cons.2 ⟨h1, ih m h2⟩
theorem OwnC.onlyNe {w w' : World} {B : Nat} {e : TypeId} {v : Value} {l : List Value} (h : OwnC w B e v l) {g : Nat} (ho : Only w w' g) (hg : v.ownBlock ≠ some g) : OwnC w' B e v l := by
  obtain ⟨hl, h1 | ⟨k, cap, cur, hv, hbk, hk, h1⟩⟩ := h
  · exact ⟨hl, Or.inl h1⟩
  · refine ⟨hl, Or.inr ⟨k, cap, cur, hv, hbk, Blk.only hk ho (fun e => hg ?_), h1⟩⟩
    rw [hv, e]; rfl
theorem subC_len (l : List Cg) (id : Int) : (subC l id).length ≤ l.length := List.length_filter_le _ _
theorem subC_map {l : List Cg} {id : Int} : (subC l id).map (·.id) = allC l id := by
  by_cases h : HasId l id ∧ mayC l = true
  · exact subC_ids h.2 h.1
  · have h' : ¬ HasId l id ∨ mayC l = false := by
      by_cases h1 : HasId l id
      · right; have := fun h2 => h ⟨h1, h2⟩; simpa using this
      · exact Or.inl h1
    rw [subC_none h']
    rcases h' with h' | h'
    · rw [allC_none h']; rfl
    · rw [allC_wrong h']; rfl

end Go.Proofs.YtpmbpklbiocclaaGreat

/-
  The contracts of package graph's Depth and Next.
-/
namespace Go.Proofs.YtpmbpklbiocclaaGreat
open Go.RowKit

theorem allC_len (l : List Cg) (id : Int) : (allC l id).length ≤ l.length := by rw [← subC_map, List.length_map]; exact subC_len l id
theorem maxL_take (z : Nat → Nat) (r : List Nat) {j : Nat} (hj : j < r.length) : maxL ((r.take (j + 1)).map z) = max (maxL ((r.take j).map z)) (z r[j]) := by
  rw [List.take_succ_eq_append_getElem hj, List.map_append]
  exact maxL_snoc _ _
theorem Only.drew_ {w w' : World} {g : Nat} (h : Only w w' g) : Only w w'.drew g := ⟨h.os, h.tape, h.output, h.size, h.block⟩
theorem Blk.drew_ {w : World} {g : Nat} {t : TypeId} {cs : Array Value} (h : Blk w g t cs) : Blk w.drew g t cs := h
def dpZ (z : Nat → Nat) (k m : Nat) (i : Nat) : Int := if i < k then (z i : Int) else if i = k then (m : Int) else 0
theorem dpZ_set (z : Nat → Nat) (k m m' : Nat) : updF (dpZ z k m) k (m' : Int) = dpZ z k m' := funext fun i => by
  unfold updF dpZ
  by_cases h : i = k
  · subst h; rw [if_pos rfl, if_neg (Nat.lt_irrefl _), if_pos rfl]
  · rw [if_neg h, if_neg h, if_neg h]
theorem dpZ_next (z : Nat → Nat) (k : Nat) : dpZ z k (z k) = dpZ z (k + 1) 0 := funext fun i => by
  unfold dpZ
  by_cases h : i < k
  · rw [if_pos h, if_pos (by omega)]
  · by_cases h2 : i = k
    · subst h2; rw [if_neg h, if_pos rfl, if_pos (Nat.lt_succ_self _)]
    · rw [if_neg h, if_neg h2, if_neg (by omega)]
      by_cases h3 : i = k + 1
      · rw [if_pos h3]; rfl
      · rw [if_neg h3]
theorem dpZ_zero (z : Nat → Nat) : dpZ z 0 0 = fun _ => 0 := funext fun i => by
  unfold dpZ
  rw [if_neg (Nat.not_lt_zero i)]
  split <;> rfl

set_option maxRecDepth 100000 in
set_option maxHeartbeats 16000000 in
theorem gdepth_any (A : Option Addr) (n cap : Nat) (l : List Cg) (hl : l.length = n) (hcap : n ≤ cap) (hm : n ≤ 4095) (hN : ∀ c ∈ l, c.needs.length ≤ 4096) (id : Int) (w : World) (hr : RdL RdC w A 5 l) :
    Calls Tryz.prog 39 #[.slice A n cap, .int .i64 id] w fun e w' => e = .returned (.int .i64 (depthC l id : Int)) ∧ Below w.heap.size w w' := by
  have Hl := Lib.hid hl
  have Hr := Lib.hid hr
  have HNN := Lib.hid hN
  clear hl hr hN
  obtain ⟨dd, hdd⟩ : ∃ d, depthC l id = d := ⟨_, rfl⟩
  rw [hdd]
  have Hdd := Lib.hid hdd
  clear hdd
  go_enter Tryz.func39, Tryz.ntmps39
  go_wp2_with fail
  refine (gplace_any A n cap l Hl.out (by omega) id _ Hr.out).mono ?_; rintro e w2 ⟨p, b, rfl, h1, h2, hb2⟩
  have Hw2 := Lib.hid hb2
  clear hb2
  cases b
  · have HE : Hid (dd = 0) := Lib.hid (by
      rw [← Hdd.out]
      rcases h2 rfl with h | h
      · exact depthC_wrong h
      · exact depthC_no h)
    clear h1 h2
    go_wp2_with fail
    go_ret
    exact ⟨by rw [HE.out]; rfl, Hw2.out⟩
  · obtain ⟨hmay, hpl, hpid⟩ := h1 rfl
    have HMay := Lib.hid hmay
    have hpn : p < n := by have := Hl.out; omega
    obtain ⟨ad, Ad, nd, cd, An, nn, cn, rfl, _⟩ := Hr.out.cgk hpl
    obtain ⟨p1, hp1⟩ : ∃ p1, p1 = p + 1 := ⟨_, rfl⟩
    have q1 : IntKind.i64.wrap ((p : Int) + 1) = (p1 : Int) := by rw [IntKind.wrap_i64]; omega
    have z1 : p1 ≤ cap := by omega
    have z2 : (p1 : Int) ≤ cap := by omega
    have z3 : p1 ≤ 4096 := by omega
    have HP := Lib.hid hp1
    have Htl : Hid ((l.take p1).length = p1) := Lib.hid (by rw [List.length_take]; have := Hl.out; omega)
    have HmT : Hid (mayC (l.take p1) = true) := Lib.hid (mayN_take p1 hmay)
    obtain ⟨z, hz⟩ : ∃ z : Nat → Nat, z = fun k => depthC l (cgA l k).id := ⟨_, rfl⟩
    have HZd : Hid (z p = dd) := Lib.hid (by rw [hz]; show depthC l (cgA l p).id = dd; rw [cgA_eq hpl, hpid, Hdd.out])
    have HZb : Hid (∀ k, z k ≤ 4096) := Lib.hid (fun k => by
      rw [hz]
      have h1 := depthC_le (id := (cgA l k).id) hmay
      have h2 := allC_len l (cgA l k).id
      have := Hl.out
      show depthC l (cgA l k).id ≤ 4096
      omega)
    clear h1 h2 hmay hpid hp1
    go_wp2_with (refine wpList_make_zero rfl _ _ _ _ rfl Tryz.underlying59 (.int .i64 0) 8 Tryz.infoInt rfl .i64 .i64 _ _ p1 rfl rfl rfl rfl (by omega) (by omega) (zc p1 (fun _ => 0)) (zc_zero p1) ?_)
    apply Stop.go; intro w3 Hg3 Hb3
    have Hw3 := Lib.hid (bt Hw2.out Hg3.out.1)
    have Hgw : Hid (w.heap.size ≤ w2.heap.size) := Lib.hid Hw2.out.size
    clear Hw2
    generalize hgD : w2.heap.size = gD at *
    clear hgD
    go_wp2_with fail
    refine (gwaits_any (some ad) p1 cap (l.take p1) Htl.out z3 HmT.out (fun c hc => HNN.out c (List.mem_of_mem_take hc)) _ ((Hr.out.below Hw3.out).take p1)).mono ?_; rintro e w4 ⟨gR, cR, SR, R, rfl, hcR, hcm, hRok, hgR, hRb, hRo, hb4⟩
    rw [Htl.out] at hcR hRok hRb hRo ⊢
    have HR := Lib.hid (show RowsOK l (p + 1) R from by rw [← HP.out]; exact hRok.of_take)
    have HRb := Lib.hid hRb
    have HRo := Lib.hid hRo
    have Hw4 := Lib.hid (bt Hw3.out hb4)
    have Hb4 := Lib.hid (Hb3.out.ext hb4)
    have HgDR : Hid (gD < w3.heap.size) := Lib.hid Hb3.out.lt
    have HgR2 := Lib.hid (show gD < gR from Nat.lt_of_lt_of_le Hb3.out.lt hgR)
    have HRN := Lib.hid (show ∀ i, i < p1 → (SR i).ownBlock ≠ some gD from fun i hi e => by have := ((hRo i hi).lt gD e).1; have := HgDR.out; omega)
    have HZr : Hid (∀ i, i < p1 → z i = maxL ((R i).map z) + 1) := Lib.hid (fun i hi => by
      have := depth_rows HMay.out (by have := HP.out; omega) HR.out (i := i) (by have := HP.out; omega)
      rw [hz]
      exact this)
    have Hlt := Lib.hid HR.out.lt
    rw [← dpZ_zero z] at Hb4
    clear hRok hgR hRb hRo hb4 hcR hcm hz Hb3 Hg3 Hw3
    go_wp2_with fail
    go_loopw [29] (fun i wr => ∃ k : Nat, k ≤ p1 ∧ i = .int .i64 k ∧ Blk wr gD 3 (zc p1 (dpZ z k 0)) ∧ Only w4 wr gD) (fun i _ => p1 - (intOf i).toNat)
    case atStart => exact ⟨0, Nat.zero_le _, rfl, Hb4.out, Only.refl _ _⟩
    case round =>
      obtain ⟨k, hk, rfl, hB, hO⟩ := hrel
      have HB := Lib.hid hB
      have HO := Lib.hid hO
      clear hB hO
      by_cases hlt : k < p1
      · have d0 : decide ((k : Int) < p1) = true := by simpa using hlt
        have z5 : (k : Int) < p1 := by omega
        have hRk := HRo.out k hlt
        obtain ⟨Ak, ck, hv, _, _, _⟩ := hRk.ints
        rw [ns_len] at hv
        have k2 : wr.cell? ⟨gR, k, none⟩ = some (SR k) := by rw [(HRb.out.only HO.out (by have := HgR2.out; omega)).cell, vc_get _ hlt]
        rw [hv] at k2
        have HRk := Lib.hid hRk
        have HNe := Lib.hid (HRN.out k hlt)
        have HV := Lib.hid hv
        have Hltk : Hid (∀ j (hj : j < (R k).length), (R k)[j] < k) := Lib.hid (fun j hj => Hlt.out k (by have := HP.out; omega) _ (List.getElem_mem hj))
        have hlR : (R k).length ≤ 4096 := by have := HR.out.len (i := k) (by have := HP.out; omega); omega
        have HZk := Lib.hid (HZr.out k hlt)
        have HMT := Lib.hid (fun j (hj : j < (R k).length) => maxL_take z (R k) hj)
        have HMb : Hid (∀ j, maxL (((R k).take j).map z) ≤ 4096) := Lib.hid (fun j => maxL_le fun x hx => by
          obtain ⟨y, _, rfl⟩ := List.mem_map.1 hx
          exact HZb.out y)
        clear hRk hv
        generalize R k = L at *
        go_wp2_with fail
        obtain ⟨wc, hwc⟩ : ∃ x, x = wr := ⟨_, rfl⟩
        subst hwc
        go_loopw [36] (fun i wr => ∃ j : Nat, j ≤ L.length ∧ i = .int .i64 j ∧ Blk wr gD 3 (zc p1 (dpZ z k (maxL ((L.take j).map z)))) ∧ Only w4 wr gD) (fun i _ => L.length - (intOf i).toNat)
        case atStart => exact ⟨0, Nat.zero_le _, rfl, HB.out, HO.out⟩
        case round =>
          obtain ⟨j, hj, rfl, hB2, hO2⟩ := hrel
          have HB2 := Lib.hid hB2
          have HO2 := Lib.hid hO2
          clear hB2 hO2
          by_cases hjl : j < L.length
          · have d2 : decide ((j : Int) < L.length) = true := by simpa using hjl
            have hrd := (HRk.out.onlyNe HO2.out HNe.out)
            rw [HV.out] at hrd
            obtain ⟨Ak', ck', e', _, _, hrc⟩ := hrd.ints
            rw [ns_len] at e'
            injection e' with e1 _ e3
            subst e1
            subst e3
            obtain ⟨ak, rfl, k3⟩ := hrc.int j (by rw [ns_len]; exact hjl)
            rw [ns_get hjl] at k3
            have hlt3 := Hltk.out j hjl
            have HM := Lib.hid (HMT.out j hjl)
            have HMj := Lib.hid (HMb.out j)
            generalize L[j] = q at *
            generalize maxL ((L.take j).map z) = m at *
            have hqp : q < p1 := by omega
            have z6 : (q : Int) < p1 := by omega
            have c1 : wr.cell? ⟨gD, k, none⟩ = some (.int .i64 (m : Int)) := by rw [HB2.out.cell, zc_get _ hlt]; unfold dpZ; rw [if_neg (Nat.lt_irrefl _), if_pos rfl]
            have c2 : wr.cell? ⟨gD, q, none⟩ = some (.int .i64 (z q : Int)) := by rw [HB2.out.cell, zc_get _ hqp]; unfold dpZ; rw [if_pos hlt3]
            have y1 := HB2.out.frozen k
            clear hrd hrc
            go_wp2_with fail
            go_region
            have HB7 := Lib.hid (HB2.out.set_ k (.int .i64 (max (m : Int) (z q : Int)))).drew_
            have HO7 := Lib.hid (HO2.out.setCell k (.int .i64 (max (m : Int) (z q : Int)))).drew_
            have hmax : max (m : Int) (z q : Int) = ((max m (z q) : Nat) : Int) := by omega
            clear c1 c2 y1
            generalize (wr.setCell ⟨gD, k, none⟩ (.int .i64 (max (m : Int) (z q : Int)))).drew = w7 at *
            rw [hmax, zc_set, dpZ_set, ← HM.out] at HB7
            clear hmax
            go_wp2_with fail
            go_roundw
            case rel => exact ⟨j + 1, by omega, by go_num, HB7.out, HO7.out⟩
            case measure => simp [intOf]; omega
          · have d2 : decide ((j : Int) < L.length) = false := by simpa using hjl
            have hjn : j = L.length := by omega
            rw [hjn, List.take_length] at HB2
            clear hjn
            have hmb := maxL_le (l := L.map z) (m := 4096) (fun x hx => by
              obtain ⟨y, _, rfl⟩ := List.mem_map.1 hx
              exact HZb.out y)
            have HZk2 := Lib.hid HZk.out
            obtain ⟨m, hmm⟩ : ∃ m, maxL (L.map z) = m := ⟨_, rfl⟩
            rw [hmm] at HB2 HZk2 hmb
            clear hmm
            have c1 : wr.cell? ⟨gD, k, none⟩ = some (.int .i64 (m : Int)) := by rw [HB2.out.cell, zc_get _ hlt]; unfold dpZ; rw [if_neg (Nat.lt_irrefl _), if_pos rfl]
            obtain ⟨m1, hm1⟩ : ∃ m1, m1 = m + 1 := ⟨_, rfl⟩
            have q5 : IntKind.i64.wrap ((m : Int) + 1) = (m1 : Int) := by rw [IntKind.wrap_i64]; omega
            have HM1 : Hid (m1 = z k) := Lib.hid (by rw [HZk2.out, hm1])
            clear hm1 hmb
            go_wp2_with (refine wpList_store_cell rfl _ _ _ rfl Tryz.intSzG gD k rfl (.int .i64 m1) rfl rfl rfl _ _ HB2.out (by rw [zc_size]; exact hlt) ?_)
            apply Stop.go; intro w7 Ho7 Hb7
            rw [zc_set, dpZ_set, HM1.out, dpZ_next] at Hb7
            have HO7 := Lib.hid (HO2.out.trans Ho7.out)
            go_wp2_with fail
            go_roundw
            case rel => exact ⟨k + 1, by omega, by go_num, Hb7.out, HO7.out⟩
            case measure => simp [intOf]; omega
      · have d0 : decide ((k : Int) < p1) = false := by simpa using hlt
        have hkn : k = p1 := by omega
        subst hkn
        have hpk : p < k := by have := HP.out; omega
        have c1 : wr.cell? ⟨gD, p, none⟩ = some (.int .i64 (dd : Int)) := by rw [HB.out.cell, zc_get _ hpk]; unfold dpZ; rw [if_pos hpk, HZd.out]
        go_wp2_with fail
        go_ret
        exact ⟨rfl, Hw4.out.trans (HO.out.below Hgw.out)⟩

end Go.Proofs.YtpmbpklbiocclaaGreat
