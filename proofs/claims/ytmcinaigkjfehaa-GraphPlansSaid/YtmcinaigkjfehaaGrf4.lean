/-
  The contracts of package graph's all, and All.
-/
import Derived.Test.YtmcinaigkjfehaaGrf3
import Derived.Test.YtmcinaigkjfehaaCg11
import Derived.Test.YtmcinaigkjfehaaBools
namespace Go.Proofs.Ytmcinaigkjfehaa
open Go.RowKit

theorem Try.boolInfoG : (Try.prog.info? 4).map (fun i => (i.zero, i.size, i.bytes)) = some (some (.bool false), 1, 1) := by kernel_rfl
theorem Try.boolSzG : (Try.prog.info? 4).map (·.size) = some 1 := by kernel_rfl
theorem RdL.take {α : Type} {D : Rds α} {w : World} {A : Option Addr} {N : Nat} {l : List α} (h : RdL D w A N l) (m : Nat) : RdL D w A N (l.take m) := by
  obtain ⟨rows, h1, h2, h3, h4⟩ := h
  refine ⟨rows.take m, fun r hr => h1 r (List.mem_of_mem_take hr), fun k hk i hi => ?_, by simp [h3], fun k hk hk' => ?_⟩
  · have hk2 : k < rows.length := by simp at hk; omega
    have := h2 k hk2 i hi
    rwa [show (rows.take m)[k] = rows[k] by simp]
  · simp only [List.getElem_take]
    exact h4 k (by simp at hk; omega) (by simp at hk'; omega)
theorem mayN_take {b : Int} {l : List Cg} (m : Nat) (h : mayN b l = true) : mayN b (l.take m) = true := by
  induction l generalizing b m with
  | nil => rw [List.take_nil]; rfl
  | cons c l ih =>
    cases m with
    | zero => rfl
    | succ m =>
      obtain ⟨h1, h2⟩ := mayN_cons.1 h
      rw [List.take_succ_cons]
      exact mayN_cons.2 ⟨h1, ih m h2⟩
theorem OwnC.onlyNe {w w' : World} {B : Nat} {e : TypeId} {v : Value} {l : List Value} (h : OwnC w B e v l) {g : Nat} (ho : Only w w' g) (hg : v.ownBlock ≠ some g) : OwnC w' B e v l := by
  obtain ⟨hl, h1 | ⟨k, cap, cur, hv, hbk, hk, h1⟩⟩ := h
  · exact ⟨hl, Or.inl h1⟩
  · refine ⟨hl, Or.inr ⟨k, cap, cur, hv, hbk, Blk.only hk ho (fun e => hg ?_), h1⟩⟩
    rw [hv, e]; rfl
/-- Those that are marked, in order. -/
def subK (l : List Cg) (f : Nat → Bool) (k : Nat) : List Cg := ((List.range k).filter f).map (cgA l)
theorem subK_zero (l : List Cg) (f : Nat → Bool) : subK l f 0 = [] := rfl
theorem subK_on {l : List Cg} {f : Nat → Bool} {k : Nat} (h : f k = true) : subK l f (k + 1) = subK l f k ++ [cgA l k] := by
  unfold subK
  rw [List.range_succ, List.filter_append, List.map_append]
  simp [h]
theorem subK_off {l : List Cg} {f : Nat → Bool} {k : Nat} (h : f k = false) : subK l f (k + 1) = subK l f k := by
  unfold subK
  rw [List.range_succ, List.filter_append, List.map_append]
  simp [h]
theorem subK_len (l : List Cg) (f : Nat → Bool) (k : Nat) : (subK l f k).length ≤ k := by
  unfold subK
  rw [List.length_map]
  have := List.length_filter_le f (List.range k)
  rwa [List.length_range] at this
theorem subK_ids (l : List Cg) (f : Nat → Bool) (k : Nat) : (subK l f k).map (·.id) = markK l f k := by
  unfold subK markK
  rw [List.map_map]
  rfl
theorem ids_inj {b : Int} {l : List Cg} (hm : mayN b l = true) : ∀ a c : List Cg, (∀ x ∈ a, x ∈ l) → (∀ x ∈ c, x ∈ l) → a.map (·.id) = c.map (·.id) → a = c := by
  intro a
  induction a with
  | nil => intro c _ _ h; cases c with
    | nil => rfl
    | cons => cases h
  | cons x a ih => intro c h1 h2 h; cases c with
    | nil => cases h
    | cons y c =>
      simp only [List.map_cons, List.cons.injEq] at h
      rw [may_id hm (h1 x (by simp)) (h2 y (by simp)) h.1, ih c (fun z hz => h1 z (by simp [hz])) (fun z hz => h2 z (by simp [hz])) h.2]
theorem subK_sub {l : List Cg} {R : Nat → List Nat} {id : Int} {p : Nat} {f : Nat → Bool} (hm : mayC l = true) (hp : p < l.length) (hid : (cgA l p).id = id) (hR : RowsOK l (p + 1) R) (h : MarkR l R id p 0 f) : subK l f (p + 1) = subC l id := by
  refine ids_inj (b := 0) hm _ _ (fun x hx => ?_) (fun x hx => (List.mem_filter.1 hx).1) ?_
  · obtain ⟨k, hk, rfl⟩ := List.mem_map.1 hx
    have := List.mem_range.1 (List.mem_filter.1 hk).1
    rw [cgA_eq (by omega)]
    exact List.getElem_mem _
  · rw [subK_ids, h.done hm hp hid hR, subC_ids hm ⟨cgA l p, by rw [cgA_eq hp]; exact List.getElem_mem _, hid⟩]
theorem subC_len (l : List Cg) (id : Int) : (subC l id).length ≤ l.length := List.length_filter_le _ _
theorem subC_map {l : List Cg} {id : Int} : (subC l id).map (·.id) = allC l id := by
  by_cases h : HasId l id ∧ mayC l = true
  · exact subC_ids h.2 h.1
  · have h' : ¬ HasId l id ∨ mayC l = false := by
      by_cases h1 : HasId l id
      · right; have := fun h2 => h ⟨h1, h2⟩; simpa using this
      · exact Or.inl h1
    rw [subC_none h']
    rcases h' with h' | h'
    · rw [allC_none h']; rfl
    · rw [allC_wrong h']; rfl
/-- Marked, or one of the first of these. -/
def markT (f : Nat → Bool) (r : List Nat) (j : Nat) : Nat → Bool := fun i => f i || (r.take j).contains i
theorem markT_snoc (f : Nat → Bool) (r : List Nat) {j : Nat} (hj : j < r.length) : (fun i => markT f r j i || decide (i = r[j])) = markT f r (j + 1) := funext fun i => by
  unfold markT
  rw [List.take_succ_eq_append_getElem hj]
  simp only [List.contains_append, Bool.or_assoc]
  congr 2
  rw [Bool.eq_iff_iff]
  simp
theorem markT_zero (f : Nat → Bool) (r : List Nat) : markT f r 0 = f := funext fun i => by unfold markT; simp
theorem markT_all (f : Nat → Bool) (r : List Nat) : markT f r r.length = fun i => f i || r.contains i := funext fun i => by unfold markT; rw [List.take_length]

set_option maxRecDepth 100000 in
set_option maxHeartbeats 16000000 in
theorem gall_any (A : Option Addr) (n cap : Nat) (l : List Cg) (hl : l.length = n) (hcap : n ≤ cap) (hm : n ≤ 4095) (hN : ∀ c ∈ l, c.needs.length ≤ 4096) (id : Int) (w : World) (hr : RdL RdC w A 5 l) :
    Calls Try.prog 31 #[.slice A n cap, .int .i64 id] w (RetC w (subC l id)) := by
  have Hl := Lib.hid hl
  have Hr := Lib.hid hr
  have HNN := Lib.hid hN
  clear hl hr hN
  go_enter Try.func31, Try.ntmps31
  go_wp2_with fail
  refine (gplace_any A n cap l Hl.out (by omega) id _ Hr.out).mono ?_; rintro e w2 ⟨p, b, rfl, h1, h2, hb2⟩
  have Hw2 := Lib.hid hb2
  clear hb2
  cases b
  · have HE : Hid (subC l id = []) := Lib.hid (subC_none ((h2 rfl).symm))
    clear h1 h2
    go_wp2_with fail
    go_ret
    rw [HE.out]
    exact (OwnL.nil_ RdC _ 0 50 5).retC Hw2.out
  · obtain ⟨hmay, hpl, hpid⟩ := h1 rfl
    have HMay := Lib.hid hmay
    have Hpid : Hid ((cgA l p).id = id) := Lib.hid (by rw [cgA_eq hpl]; exact hpid)
    have hpn : p < n := by have := Hl.out; omega
    obtain ⟨ad, Ad, nd, cd, An, nn, cn, rfl, _⟩ := Hr.out.cgk hpl
    obtain ⟨p1, hp1⟩ : ∃ p1, p1 = p + 1 := ⟨_, rfl⟩
    have q1 : IntKind.i64.wrap ((p : Int) + 1) = (p1 : Int) := by rw [IntKind.wrap_i64]; omega
    have z1 : p1 ≤ cap := by omega
    have z2 : (p1 : Int) ≤ cap := by omega
    have z3 : p1 ≤ 4096 := by omega
    have HP := Lib.hid hp1
    have Htl : Hid ((l.take p1).length = p1) := Lib.hid (by rw [List.length_take]; have := Hl.out; omega)
    have HmT : Hid (mayC (l.take p1) = true) := Lib.hid (mayN_take p1 hmay)
    clear h1 h2 hmay hpid hp1
    go_wp2_with fail
    refine (gwaits_any (some ad) p1 cap (l.take p1) Htl.out z3 HmT.out (fun c hc => HNN.out c (List.mem_of_mem_take hc)) _ ((Hr.out.below Hw2.out).take p1)).mono ?_; rintro e w3 ⟨gR, cR, SR, R, rfl, hcR, hcm, hRok, hgR, hRb, hRo, hb3⟩
    rw [Htl.out] at hcR hRok hRb hRo ⊢
    have HR := Lib.hid (show RowsOK l (p + 1) R from by rw [← HP.out]; exact hRok.of_take)
    have HRb := Lib.hid hRb
    have HRo := Lib.hid hRo
    have Hw3 := Lib.hid (bt Hw2.out hb3)
    have HgR := Lib.hid hRb.lt
    have HgR2 := Lib.hid (show w.heap.size ≤ gR from Nat.le_trans Hw2.out.size hgR)
    have HMk0 := Lib.hid (MarkR.start (R := R) HMay.out hpl Hpid.out)
    have HMkon := Lib.hid (fun m f (h : MarkR l R id p (m + 1) f) hm2 hf => MarkR.on HMay.out hpl Hpid.out HR.out h hm2 hf)
    have HDone := Lib.hid (fun f (h : MarkR l R id p 0 f) => subK_sub HMay.out hpl Hpid.out HR.out h)
    have Hlt := Lib.hid HR.out.lt
    clear hRok hgR hRb hRo hb3 hcR hcm
    go_wp2_with (refine wpList_make_zero rfl _ _ _ _ rfl Try.underlying57 (.bool false) 1 Try.boolInfoG rfl .i64 .i64 _ _ p1 rfl rfl rfl rfl (by omega) (by omega) (fbools p1 fun _ => false) (by unfold fbools; congr 1; apply List.ext_getElem <;> simp) ?_)
    apply Stop.go; intro w4 Hg4 Hb4
    have Hw4 := Lib.hid (bt Hw3.out Hg4.out.1)
    have HRb4 := Lib.hid (HRb.out.ext Hg4.out.1)
    have HRoN := Lib.hid (fun i hi q hq => ((HRo.out i hi).lt q hq).2)
    have HRo4 := Lib.hid (fun i hi => (HRo.out i hi).ext Hg4.out.1)
    have Hgw : Hid (w.heap.size ≤ w3.heap.size) := Lib.hid Hw3.out.size
    clear HRb HRo Hg4 Hw3
    generalize hgB : w3.heap.size = gB at *
    clear hgB
    have hpp : p < p1 := by have := HP.out; omega
    go_wp2_with (refine wpList_store_cell rfl _ _ _ rfl Try.boolSzG gB p rfl (.bool true) rfl rfl rfl _ _ Hb4.out (by rw [fbools_size]; exact hpp) ?_)
    apply Stop.go; intro w5 Ho5 Hb5
    rw [fbools_set, fbools_congr (fun i => Bool.false_or _)] at Hb5
    go_wp2_with fail
    go_loopw [9] (fun i wr => ∃ (m : Nat) (f : Nat → Bool), m ≤ p + 1 ∧ ((m = 0 ∧ i = .int .i64 (-1)) ∨ ∃ k : Nat, m = k + 1 ∧ i = .int .i64 k) ∧ Blk wr gB 4 (fbools p1 f) ∧ MarkR l R id p m f ∧ Only w4 wr gB) (fun i _ => (intOf i + 1).toNat)
    case atStart => exact ⟨p + 1, _, Nat.le_refl _, Or.inr ⟨p, rfl, rfl⟩, Hb5.out, HMk0.out, Ho5.out⟩
    case round =>
      obtain ⟨m, f, hmp, hi, hB, hMk, hO⟩ := hrel
      have HB := Lib.hid hB
      have HMk := Lib.hid hMk
      have HO := Lib.hid hO
      clear hB hMk hO
      rcases hi with ⟨rfl, rfl⟩ | ⟨k, rfl, rfl⟩
      · have HSub := Lib.hid (HDone.out f HMk.out)
        rw [← HP.out] at HSub
        have HrZ := Lib.hid (fun w' (hb : Below w.heap.size w w') => Hr.out.below hb)
        have Hw6 := Lib.hid (Hw4.out.trans (HO.out.below Hgw.out))
        clear HMkon HDone HMk HMk0 HRb4 HRo4
        generalize hw9 : wr = w9 at *
        clear hw9
        go_wp2_with fail
        go_loopw [12, 58] (fun v i wr => ∃ k : Nat, k ≤ p1 ∧ i = .int .i64 k ∧ OwnL RdC wr w9.heap.size 50 5 v (subK l f k) ∧ Below w9.heap.size w9 wr) (fun _ i _ => p1 - (intOf i).toNat)
        case atStart => exact ⟨0, Nat.zero_le _, rfl, OwnL.nil_ _ _ _ _ _, Below.refl _ _⟩
        case round =>
          obtain ⟨k, hk, rfl, hu, hbw⟩ := hrel
          have Hu := Lib.hid hu
          have Hbw := Lib.hid hbw
          clear hu hbw
          by_cases hlt : k < p1
          · have d1 : decide ((k : Int) < p1) = true := by simpa using hlt
            have hkl : k < l.length := by have := HP.out; omega
            have z5 : (k : Int) < n := by have := Hl.out; omega
            obtain ⟨b, hfk⟩ : ∃ b, f k = b := ⟨_, rfl⟩
            have k1 : wr.cell? ⟨gB, k, none⟩ = some (.bool b) := by rw [(HB.out.ext Hbw.out).cell, fbools_get _ _ _ hlt, hfk]
            cases b
            · have HX := Lib.hid (subK_off (l := l) hfk)
              clear hfk
              go_wp2_with fail
              go_roundw
              case rel => exact ⟨k + 1, by omega, by go_num, by rw [HX.out]; exact Hu.out, Hbw.out⟩
              case measure => simp [intOf] <;> omega
            · have HX := Lib.hid (subK_on (l := l) hfk)
              have hlen := subK_len l f k
              obtain ⟨ad', Ad, nd, cd, An, nn, cn, e', hcv, h0, h1, h2, h3, h4⟩ := Hr.out.cgk hkl
              injection e' with e'
              subst e'
              have D := Lib.hid (bt Hw6.out Hbw.out)
              have C0 := Lib.hid ((D.out.cell (block_lt_of_cell h0)).trans h0)
              have C1 := Lib.hid ((D.out.cell (block_lt_of_cell h1)).trans h1)
              have C2 := Lib.hid ((D.out.cell (block_lt_of_cell h2)).trans h2)
              have C3 := Lib.hid ((D.out.cell (block_lt_of_cell h3)).trans h3)
              have C4 := Lib.hid ((D.out.cell (block_lt_of_cell h4)).trans h4)
              have Hcv := Lib.hid hcv
              clear h0 h1 h2 h3 h4 hcv hfk
              generalize cgA l k = c at *
              generalize subK l f k = L at *
              go_wp2_with (first | refine wpList_load_five rfl _ _ rfl (ad.add (k * 5)) rfl _ _ _ _ _ C0.out C1.out C2.out C3.out C4.out _ Try.underlying50 Try.chgSize ?_ | refine wpList_build_row rfl _ _ _ rfl Try.underlying25 5 72 _ Try.chgInfo (by decide) (by decide) #[.int .i64 c.id, .int .i64 c.block, .int .i64 c.p.at_, .slice Ad nd cd, .slice An nn cn] rfl rfl ?_)
              apply Stop.go; intro w7 Hg7 Hb7
              have Hu7 := Lib.hid (Hu.out.ext Hg7.out.1)
              have Hc7 := Lib.hid (Hcv.out.below (bt D.out Hg7.out.1))
              have Hz7 := Lib.hid (Nat.le_trans Hbw.out.size Hg7.out.1.size)
              have HA : Hid (∀ q ∈ blocksOf [Value.int .i64 c.id, .int .i64 c.block, .int .i64 c.p.at_, .slice Ad nd cd, .slice An nn cn], u12.ownBlock ≠ some q) := Lib.hid (fun q hq e => by
                have h1 := RdC.there Hcv.out.rd q hq
                have h2 := (Hu.out.lt q e).1
                have h3 := Hw6.out.size
                omega)
              have hl1 : L.length + 1 ≤ 140737488355328 := by omega
              have hl2 : (L.length + 1) * 72 ≤ 140737488355328 := by omega
              go_wp2_with (at_builtin; refine wpList_append_L RdC rfl _ _ _ _ rfl Try.underlying25 5 72 _ Try.chgInfo rfl (by decide) w9.heap.size _ L rfl Hu7.out _ _ rfl Hb7.out rfl (by simp [Value.oneCell']) c Hc7.out.rd HA.out Hz7.out hl1 hl2 ?_)
              apply Stop.go
              intro gL capL wL HL HbL HgL HwL
              go_wp2_with fail
              go_roundw
              case rel => exact ⟨k + 1, by omega, by go_num, by rw [HX.out]; exact HL.out, (Hbw.out.trans (Hg7.out.1.mono Hbw.out.size)).trans HbL.out⟩
              case measure => simp [intOf] <;> omega
          · have d1 : decide ((k : Int) < p1) = false := by simpa using hlt
            have hkn : k = p1 := by omega
            rw [hkn, HSub.out] at Hu
            clear hkn
            go_wp2_with fail
            go_ret
            exact Hu.out.retC (Hw6.out.trans (Hbw.out.mono Hw6.out.size))
      · have d1 : decide ((0 : Int) ≤ (k : Int)) = true := by simp
        have hkp : k < p1 := by have := HP.out; omega
        have q2 : IntKind.i64.wrap ((k : Int) - 1) = (k : Int) - 1 := by rw [IntKind.wrap_i64]; omega
        obtain ⟨b, hfk⟩ : ∃ b, f k = b := ⟨_, rfl⟩
        have k1 : wr.cell? ⟨gB, k, none⟩ = some (.bool b) := by rw [HB.out.cell, fbools_get _ _ _ hkp, hfk]
        cases b
        · have HX := Lib.hid (HMk.out.off hfk)
          clear hfk
          go_wp2_with fail
          go_roundw
          case rel => exact ⟨k, f, by omega, (by
            cases k with
            | zero => exact Or.inl ⟨rfl, by all_goals first | rfl | go_num⟩
            | succ k => exact Or.inr ⟨k, rfl, by all_goals first | rfl | go_num⟩), HB.out, HX.out, HO.out⟩
          case measure => simp [intOf] <;> omega
        · have HX := Lib.hid (HMkon.out k f HMk.out (by omega) hfk)
          have hRk := HRo4.out k hkp
          have hne : (SR k).ownBlock ≠ some gB := fun e => by have := HRoN.out k hkp gB e; omega
          obtain ⟨Ak, ck, hv, _, _, _⟩ := hRk.ints
          rw [ns_len] at hv
          have k2 : wr.cell? ⟨gR, k, none⟩ = some (SR k) := by rw [(HRb4.out.only HO.out (by have := HgR.out; omega)).cell, vc_get _ hkp]
          rw [hv] at k2
          have HRk := Lib.hid hRk
          have HNe := Lib.hid hne
          have HV := Lib.hid hv
          have Hltk : Hid (∀ j (hj : j < (R k).length), (R k)[j] < k) := Lib.hid (fun j hj => Hlt.out k (by have := HP.out; omega) _ (List.getElem_mem hj))
          have hlR : (R k).length ≤ 4096 := by have := HR.out.len (i := k) (by have := HP.out; omega); omega
          clear hfk hRk hne hv
          generalize hL : R k = L at *
          have HLL := Lib.hid hL
          clear hL
          go_wp2_with fail
          obtain ⟨wc, hwc⟩ : ∃ x, x = wr := ⟨_, rfl⟩
          subst hwc
          go_loopw [48] (fun i wr => ∃ j : Nat, j ≤ L.length ∧ i = .int .i64 j ∧ Blk wr gB 4 (fbools p1 (markT f L j)) ∧ Only w4 wr gB) (fun i _ => L.length - (intOf i).toNat)
          case atStart => exact ⟨0, Nat.zero_le _, rfl, by rw [markT_zero]; exact HB.out, HO.out⟩
          case round =>
            obtain ⟨j, hj, rfl, hB2, hO2⟩ := hrel
            have HB2 := Lib.hid hB2
            have HO2 := Lib.hid hO2
            clear hB2 hO2
            by_cases hjl : j < L.length
            · have d2 : decide ((j : Int) < L.length) = true := by simpa using hjl
              have hrd := (HRk.out.onlyNe HO2.out HNe.out)
              rw [HV.out] at hrd
              obtain ⟨Ak', ck', e', _, _, hrc⟩ := hrd.ints
              rw [ns_len] at e'
              injection e' with e1 _ e3
              subst e1
              subst e3
              obtain ⟨ak, rfl, k3⟩ := hrc.int j (by rw [ns_len]; exact hjl)
              rw [ns_get hjl] at k3
              have hlt3 := Hltk.out j hjl
              have HS := Lib.hid (markT_snoc f L hjl)
              generalize L[j] = q at *
              have hqp : q < p1 := by omega
              clear hrd hrc
              go_wp2_with (refine wpList_store_cell rfl _ _ _ rfl Try.boolSzG gB q rfl (.bool true) rfl rfl rfl _ _ HB2.out (by rw [fbools_size]; exact hqp) ?_)
              apply Stop.go; intro w7 Ho7 Hb7
              rw [fbools_set, HS.out] at Hb7
              go_wp2_with fail
              go_roundw
              case rel => exact ⟨j + 1, by omega, by go_num, Hb7.out, HO2.out.trans Ho7.out⟩
              case measure => simp [intOf] <;> omega
            · have d2 : decide ((j : Int) < L.length) = false := by simpa using hjl
              have hjn : j = L.length := by omega
              rw [hjn] at HB2
              clear hjn
              go_wp2_with fail
              go_roundw
              case rel => exact ⟨k, _, by omega, (by
                cases k with
                | zero => exact Or.inl ⟨rfl, by all_goals first | rfl | go_num⟩
                | succ k => exact Or.inr ⟨k, rfl, by all_goals first | rfl | go_num⟩), HB2.out, (by rw [markT_all]; exact HX.out), HO2.out⟩
              case measure => simp [intOf] <;> omega

set_option maxRecDepth 100000 in
set_option maxHeartbeats 4000000 in
theorem gAll_any (A : Option Addr) (n cap : Nat) (l : List Cg) (hl : l.length = n) (hcap : n ≤ cap) (hm : n ≤ 4095) (hN : ∀ c ∈ l, c.needs.length ≤ 4096) (id : Int) (w : World) (hr : RdL RdC w A 5 l) :
    Calls Try.prog 12 #[.slice A n cap, .int .i64 id] w (RetI w (allC l id)) := by
  have HC := Lib.hid (gall_any A n cap l hl hcap hm hN id w hr)
  have HE := Lib.hid (subC_map (l := l) (id := id))
  have HL : Hid ((subC l id).length ≤ 4095) := Lib.hid (by have := subC_len l id; omega)
  clear hl hr hN
  generalize allC l id = Z at *
  generalize subC l id = s at *
  go_enter Try.func12, Try.ntmps12
  go_wp2_with fail
  refine (HC.out).mono ?_; rintro e w2 ⟨A2, n2, c2, rfl, hn2, hc2, hm2, hr2, hb2⟩
  have Hn := Lib.hid hn2
  have Hr := Lib.hid hr2
  have Hw2 := Lib.hid hb2
  have hn4 : n2 ≤ 4095 := by have := HL.out; omega
  clear hn2 hr2 hb2 HC
  go_wp2_with fail
  go_loopw [5, 12] (fun v i wr => ∃ k : Nat, k ≤ n2 ∧ i = .int .i64 k ∧ OwnC wr w2.heap.size 3 v (ivals ((s.take k).map (·.id))) ∧ Below w2.heap.size w2 wr) (fun _ i _ => n2 - (intOf i).toNat)
  case atStart => exact ⟨0, Nat.zero_le _, rfl, OwnC.nil_ _ _ _, Below.refl _ _⟩
  case round =>
    obtain ⟨k, hk, rfl, hu, hbw⟩ := hrel
    have Hu := Lib.hid hu
    have Hbw := Lib.hid hbw
    clear hu hbw
    by_cases hlt : k < n2
    · have d0 : decide ((k : Int) < n2) = true := by simpa using hlt
      have hkl : k < s.length := by have := Hn.out; omega
      have HX := Lib.hid (show (s.take (k + 1)).map (·.id) = (s.take k).map (·.id) ++ [(s[k]).id] by rw [List.take_succ_eq_append_getElem hkl, List.map_append]; rfl)
      have hlk : ((s.take k).map (·.id)).length ≤ 4095 := by rw [List.length_map, List.length_take]; omega
      obtain ⟨ad, Ad, nd, cd, An, nn, cn, rfl, hcv, h0, h1, h2, h3, h4⟩ := (Hr.out.below Hbw.out).cg hkl
      have C0 := Lib.hid h0
      have C1 := Lib.hid h1
      have C2 := Lib.hid h2
      have C3 := Lib.hid h3
      have C4 := Lib.hid h4
      clear h0 h1 h2 h3 h4 hcv
      generalize s[k] = c at *
      generalize (s.take k).map (·.id) = L at *
      clear hkl
      go_wp2_with (first | refine wpList_load_five rfl _ _ rfl (ad.add (k * 5)) rfl _ _ _ _ _ C0.out C1.out C2.out C3.out C4.out _ Try.underlying50 Try.chgSize ?_ | refine wpList_alloc_row rfl _ rfl _ Try.chgZero ?_); apply Stop.go; intro w3 Hg3 Hb3; go_wp2_with (refine wpList_store_arr rfl _ _ _ rfl _ #[.int .i64 c.id, .int .i64 c.block, .int .i64 c.p.at_, .slice Ad nd cd, .slice An nn cn] rfl rfl _ _ Hb3.out Try.chgSize rfl (by simp [Value.oneCell']) ?_); apply Stop.go; intro w4 Ho4 Hb4; have D4 := Lib.hid (bonly Hg3.out.1 Ho4.out (Nat.le_refl _))
      have c0 : w4.cell? ⟨wr.heap.size, 0, none⟩ = some (.int .i64 c.id) := Hb4.out.cell 0
      have Hu4 := Lib.hid (Hu.out.ext D4.out)
      have Hw4 := Lib.hid (bt Hbw.out D4.out)
      have hl1 : (ivals L).length + 1 ≤ maxLen := by rw [ivals_len]; unfold maxLen; omega
      have hl2 : ((ivals L).length + 1) * 8 ≤ 140737488355328 := by rw [ivals_len]; omega
      go_wp2_with (at_builtin; refine wpList_append_one rfl _ _ _ _ rfl Try.underlying28 (.int .i64 0) 8 Try.infoInt rfl w2.heap.size _ _ rfl Hu4.out (.int .i64 c.id) rfl rfl Hw4.out.size hl1 hl2 ?_)
      apply Stop.go
      intro v' w6 Hv' Ha'
      go_wp2_with fail
      go_roundw
      case rel => exact ⟨k + 1, by omega, by go_num, by rw [HX.out, ← ivals_snoc]; exact Hv'.out, Hw4.out.trans Ha'.out.below⟩
      case measure => simp [intOf]; omega
    · have d0 : decide ((k : Int) < n2) = false := by simpa using hlt
      have HX : Hid ((s.take k).map (·.id) = Z) := Lib.hid (by rw [List.take_of_length_le (by have := Hn.out; omega), HE.out])
      go_wp2_with fail
      go_ret
      rw [← HX.out]
      exact Hu.out.retI (bt Hw2.out Hbw.out)

end Go.Proofs.Ytmcinaigkjfehaa
