/-
  Contract of package tree's Of.
-/
import Derived.Test.YtkakihbfhmiabaaGreatTre7
namespace Go.Proofs.YtkakihbfhmiabaaGreat
open Go.RowKit
set_option maxRecDepth 10000

theorem OwnL.lt {α : Type} {D : Rds α} {w : World} {B : Nat} {e : TypeId} {N : Nat} {v : Value} {l : List α} (h : OwnL D w B e N v l) : ∀ k, v.ownBlock = some k → B ≤ k ∧ k < w.heap.size := by
  obtain ⟨rows, h1, _⟩ := h
  exact h1.lt
theorem OwnL.low {α : Type} {D : Rds α} {w : World} {B B' : Nat} {e : TypeId} {N : Nat} {v : Value} {l : List α} (h : OwnL D w B e N v l) (hb : B' ≤ B) : OwnL D w B' e N v l := by
  obtain ⟨rows, h1, h2⟩ := h
  exact ⟨rows, h1.low hb, h2⟩
/-- Rows of the call's own that stand where nothing has changed but blocks that are not theirs, nor led to. -/
theorem RN.save {F : Nat → Prop} {w w' : World} {A : Option Addr} {N : Nat} {L : List (List Value)} (h : RN w A N L) (hs : Save F w w') (h0 : 0 < N) (hF : 0 < L.length → ∀ ad, A = some ad → ¬ F ad.block) : RN w' A N L := RN.stay h fun hl ad ha => hs.block ad.block (by
  obtain ⟨ad', _, e, _, hc⟩ := h 0 hl 0 h0
  rw [ha] at e
  injection e with e
  subst e
  have := block_lt_of_cell hc
  rwa [block_of_add] at this) (hF hl ad ha)

set_option maxHeartbeats 6400000 in
theorem tree_of_any (l : Lay14) (f : Value) (T : Int → List UInt8) (hT : ∀ no, (T no).length = 256) (w : World) (hf : FV w l f T) :
    Calls Tryz.prog 17 #[.agg (vval l f)] w (RetT w 51 (treeP l T)) := by
  have HF := Lib.hid hf
  have HNo := Lib.hid (fun i w h => tnode_any l f T hT i w h)
  have HWI := Lib.hid (fun k => WI.tree (N := nodP l T) nodP_ino nodP_low k)
  have HEn := Lib.hid (fun k h => treeW_end (N := nodP l T) (k := k) nodP_ino nodP_low h)
  have HGr := Lib.hid (fun k nd (h : (treeW (nodP l T) k)[k]? = some nd) j => show WI (nodP l T) (growP (nodP l T) (treeW (nodP l T) k) (nd.names.take j)) from
    WI.grow nodP_ino (WI.tree nodP_ino nodP_low k) (List.mem_of_getElem? h) (fun e he => List.mem_of_mem_take he) fun e he => nodP_low nd.ino e (by
      rw [← (WI.tree (N := nodP l T) nodP_ino nodP_low k).is_ nd (List.mem_of_getElem? h)]
      exact List.mem_of_mem_take he))
  have HNx := Lib.hid (fun k nd (h : (treeW (nodP l T) k)[k]? = some nd) => show growP (nodP l T) (treeW (nodP l T) k) nd.names = treeW (nodP l T) (k + 1) from (stepP_some h).symm)
  have HNm := Lib.hid (fun k nd (h : (treeW (nodP l T) k)[k]? = some nd) => show nd.names.length ≤ 4096 by
    rw [(WI.tree (N := nodP l T) nodP_ino nodP_low k).is_ nd (List.mem_of_getElem? h)]
    show (namP l T (vIno l T nd.ino)).length ≤ 4096
    have h1 : (namP l T (vIno l T nd.ino)).length ≤ (srtE (lisD l T (vIno l T nd.ino))).length := List.length_filter_le _ _
    have h2 := srtE_len (lisD_apart (l := l) (T := T) (X := vIno l T nd.ino))
    have h3 := lisD_len (l := l) (T := T) (X := vIno l T nd.ino)
    omega)
  have HT0 : Hid (treeW (nodP l T) 0 = [nodP l T 1]) := Lib.hid rfl
  have HTr : Hid (treeP l T = if (nodP l T 1).kind = 2 then srtN (treeW (nodP l T) 128) else []) := Lib.hid rfl
  have HIn : Hid (∀ i, (nodP l T i).ino = i) := Lib.hid (fun i => rfl)
  obtain ⟨R, HR⟩ : ∃ R, Hid (treeP l T = R) := ⟨_, Lib.hid rfl⟩
  rw [HR.out]
  rw [HR.out] at HTr
  generalize nodP l T = N at *
  clear hf hT HR
  go_enter Tryz.func17, Tryz.ntmps17
  go_wp2_with (refine wpList_box_row rfl _ _ rfl _ rfl ?_)
  apply Stop.go; intro w1 Hg1 Hb1
  have E1 := Lib.hid Hg1.out.1
  go_wp2_with (refine wpList_load_blk rfl _ _ rfl _ rfl _ _ Hb1.out _ Tryz.underlying44 rfl Tryz.viewSize ?_)
  refine (HNo.out 1 _ (HF.out.below E1.out)).mono ?_; rintro e w2 ⟨y, rfl, hy, hyo, hb2⟩
  have HV2 := Lib.hid (Hb1.out.ext hb2)
  have HY := Lib.hid hy
  have E2 := Lib.hid (bt E1.out hb2)
  clear hy hyo hb2 Hg1 Hb1 E1
  go_wp2_with (refine wpList_alloc_row rfl _ rfl _ Tryz.ndZero ?_)
  apply Stop.go; intro w3 Hg3 Hb3
  go_wp2_with (refine wpList_store_arr rfl _ _ _ rfl _ (ncells y) rfl rfl _ _ Hb3.out Tryz.ndSize rfl (ncells_one y) ?_)
  apply Stop.go; intro w4 Ho4 Hb4
  have D4 := Lib.hid (bonly Hg3.out.1 Ho4.out (Nat.le_refl _))
  have HV4 := Lib.hid (HV2.out.ext D4.out)
  have HY4 := Lib.hid (HY.out.below D4.out)
  have E4 := Lib.hid (bt E2.out D4.out)
  generalize w2.heap.size = gr at *
  clear Hg3 Hb3 Ho4 D4 HV2 HY E2
  have c1 : w4.cell? ⟨gr, 1, none⟩ = some (.int .i64 (N 1).kind) := by
    rw [← HY4.out.kind]
    exact Hb4.out.cell 1
  by_cases hk : (N 1).kind = 2
  · have hkb : ((N 1).kind != 2) = false := by simpa using hk
    rw [if_pos hk] at HTr
    clear hk
    go_wp2_with (first | refine wpList_load_blk rfl _ _ rfl _ rfl _ _ Hb4.out _ Tryz.underlying51 rfl Tryz.ndSize ?_ | refine wpList_build_row rfl _ _ _ rfl Tryz.underlying30 7 _ _ Tryz.ndInfo (by decide) (by decide) (ncells y) rfl rfl ?_)
    apply Stop.go; intro w5 Hg5 Hb5
    have E5 := Lib.hid (bt E4.out Hg5.out.1)
    have HV5 := Lib.hid (HV4.out.ext Hg5.out.1)
    have HO5 : Hid (OwnL RdN w5 (w.heap.size + 1) 51 7 (.slice (some ⟨w4.heap.size, 0, none⟩) 1 1) (treeW N 0)) := Lib.hid (by
      rw [HT0.out]
      refine ⟨[nrow y], OwnN.lit1 HV4.out.lt Hb5.out rfl rfl, rfl, fun k h h' => ?_, fun r hr g hg => ?_⟩
      · obtain rfl : k = 0 := by simpa using h
        exact ⟨y, rfl, HY4.out.below Hg5.out.1⟩
      · rw [List.mem_singleton] at hr
        subst hr
        have h1 := HY4.out.there g hg
        simp only [Value.ownBlock]
        intro e
        injection e with e
        omega)
    clear Hg5 Hb5 HY4 Hb4 E4 HV4 c1 HT0
    generalize w4.heap.size = g4 at *
    go_wp2_with fail
    go_loopw [4, 5] (fun a d wr => ∃ (k : Nat) (v : Value), v = a ∧ d = .int .i64 k ∧ Hid (k ≤ (treeW N k).length) ∧ Hid (OwnL RdN wr (w.heap.size + 1) 51 7 v (treeW N k)) ∧ Hid (Below w.heap.size w wr) ∧ Hid (Blk wr w.heap.size 44 (vval l f))) (fun _ z _ => 129 - (intOf z).toNat)
    case atStart => exact ⟨0, _, rfl, rfl, Lib.hid (Nat.zero_le _), HO5, E5, HV5⟩
    case round =>
      clear HO5 E5 HV5
      obtain ⟨k, v, rfl, rfl, Hk, HO, E, HV⟩ := hrel
      have HWk := Lib.hid (HWI.out k)
      obtain ⟨q, Hq⟩ : ∃ q, Hid ((treeW N k).length = q) := ⟨_, Lib.hid rfl⟩
      have hq : q ≤ 128 := by rw [← Hq.out]; exact HWk.out.len
      obtain ⟨A, c, hv, _, _, hrd⟩ := HO.out.read
      rw [Hq.out] at hv Hk
      have hkq := Hk.out
      by_cases hlt : k < q
      · have hkl : k < (treeW N k).length := by rw [Hq.out]; exact hlt
        obtain ⟨nd, hnd⟩ : ∃ nd, (treeW N k)[k]? = some nd := ⟨_, List.getElem?_eq_getElem hkl⟩
        have HGk := Lib.hid (HGr.out k nd hnd)
        have HNk := Lib.hid (HNx.out k nd hnd)
        have HMk := Lib.hid (HNm.out k nd hnd)
        obtain ⟨ad, c', x, hv', hx, hc, hoff⟩ := HO.out.node hnd
        rw [Hq.out] at hv'
        have hAad : A = some ad := by
          rw [hv] at hv'
          injection hv'
        subst hAad
        have d0 : decide ((k : Int) < (q : Int)) = true := by simp; omega
        have z0 : (0 : Int) ≤ (k : Int) := by omega
        have z1 : (k : Int) < (q : Int) := by omega
        obtain ⟨m, Hmq⟩ : ∃ m, Hid (x.m = m) := ⟨_, Lib.hid rfl⟩
        have c6 : wr.cell? ⟨(ad.add (k * 7)).block, (ad.add (k * 7)).off + 6, none⟩ = some (.slice x.S m x.d) := by
          rw [← Hmq.out]
          exact node_at hc 6 _ rfl
        have HNl := Lib.hid (show nd.names.length = m by rw [← Hmq.out]; exact hx.sn.symm)
        have HNr := Lib.hid hx.names
        have HOf := Lib.hid (show 0 < (erows nd.names).length → ∀ a, x.S = some a → ¬ Has v a.block from fun hl a ha hf => hoff a.block (mem_blocksOf.2 ⟨.slice x.S x.m x.d, by simp [nrow], by
          rw [ha, leads_some, if_neg (by rw [hx.sn]; rw [erows_len] at hl; omega)]⟩) hf)
        have hm4 : m ≤ 4096 := by have := HMk.out; have := HNl.out; omega
        have HG0 : Hid (growP N (treeW N k) (nd.names.take 0) = treeW N k) := Lib.hid rfl
        obtain ⟨w0, Hw0⟩ : ∃ w0, Hid (wr = w0) := ⟨_, Lib.hid rfl⟩
        have HNr0 : Hid (RN w0 x.S 2 (erows nd.names)) := by rw [← Hw0.out]; exact HNr
        have S0 := Lib.hid (show Save (Has v) w0 wr by rw [Hw0.out]; exact Save.refl)
        have N0 := Lib.hid (Next.refl w0 (Has v))
        have Z0 := Lib.hid (show w.heap.size ≤ w0.heap.size by rw [← Hw0.out]; exact E.out.size)
        clear hnd hx hc hoff hkl HNr hrd hv' Hw0
        subst hv
        go_wp2_with fail
        go_loopw [4, 27] (fun a d wi => ∃ (j : Nat) (v' : Value), v' = a ∧ d = .int .i64 j ∧ j ≤ m ∧ Hid (OwnL RdN wi (w.heap.size + 1) 51 7 v' (growP N (treeW N k) (nd.names.take j))) ∧ Hid (Below w.heap.size w wi) ∧ Hid (Blk wi w.heap.size 44 (vval l f)) ∧ Hid (Save (Has (.slice (some ad) q c)) w0 wi) ∧ Hid (Next w0 (Has (.slice (some ad) q c)) (Has v'))) (fun _ z _ => m - (intOf z).toNat)
        case atStart => exact ⟨0, _, rfl, rfl, Nat.zero_le _, by rw [HG0.out]; exact HO, E, HV, S0, N0⟩
        case round =>
          clear HO E HV S0 N0 c6
          obtain ⟨j, v, rfl, rfl, hj, HO, E, HV, HSv, HNv⟩ := hrel
          have HWj := Lib.hid (HGk.out j)
          by_cases hlj : j < m
          · have d2 : decide ((j : Int) < (m : Int)) = true := by simp; omega
            have q0 : (0 : Int) ≤ (j : Int) := by omega
            have q1 : (j : Int) < (m : Int) := by omega
            have hjl : j < nd.names.length := by rw [HNl.out]; exact hlj
            obtain ⟨e, he⟩ : ∃ e, nd.names[j]? = some e := ⟨_, List.getElem?_eq_getElem hjl⟩
            have HGn := Lib.hid (growP_next (N := N) (treeW N k) he)
            obtain ⟨t, Ht⟩ : ∃ t, Hid (growP N (treeW N k) (nd.names.take j) = t) := ⟨_, Lib.hid rfl⟩
            rw [Ht.out] at HWj HO HGn
            have HTl := Lib.hid HWj.out.len
            have h4 := HNr0.out.save HSv.out (by decide) HOf.out
            obtain ⟨ae, hae⟩ := h4.adr (k := j) (by rw [erows_len]; exact hjl) (by decide)
            rw [hae] at h4
            have HRe := Lib.hid (h4.row (erow_at he) rfl)
            clear h4 he Ht
            rw [hae] at *
            go_wp2_with (first | refine wpList_load_cells rfl _ _ rfl (ae.add (j * 2)) rfl _ Tryz.underlying56 (erow e) Tryz.entSize HRe.out ?_ | refine wpList_alloc_row rfl _ rfl _ Tryz.entZero25 ?_)
            apply Stop.go; intro w3 Hg3 Hb3
            go_wp2_with (refine wpList_store_arr rfl _ _ _ rfl _ (ecells e) rfl rfl _ _ Hb3.out Tryz.entSize rfl (by simp [ecells, Value.oneCell']) ?_)
            apply Stop.go; intro w4 Ho4 Hb4
            have D4 := Lib.hid (bonly Hg3.out.1 Ho4.out (Nat.le_refl _))
            have E4 := Lib.hid (bt E.out D4.out)
            have HO4 := Lib.hid (HO.out.ext D4.out)
            have HV4 := Lib.hid (HV.out.ext D4.out)
            have HSv4 := Lib.hid (HSv.out.ext D4.out)
            have c1 : w4.cell? ⟨wr.heap.size, 1, none⟩ = some (.int .i64 e.ino) := Hb4.out.cell 1
            clear Hg3 Hb3 Ho4 HRe E HO HV HSv D4
            generalize wr.heap.size = ge at *
            obtain ⟨At, ct, hvt, _, _, hrt⟩ := HO4.out.read
            obtain ⟨n, Hn⟩ : ∃ n, Hid (t.length = n) := ⟨_, Lib.hid rfl⟩
            rw [Hn.out] at hvt HTl
            subst hvt
            have HRt := Lib.hid hrt
            have HZ := Lib.hid (whI_neg (t := t) (i := e.ino))
            have HAd := Lib.hid (show addP N t e = if (fstI t e.ino).isSome then t else t ++ [N e.ino] from rfl)
            clear hrt
            go_wp2_with fail
            refine (twhere_any At n ct t Hn.out (by unfold maxLen; have := HTl.out; omega) e.ino w4 HRt.out).mono ?_; rintro e w5 ⟨rfl, hb5⟩
            have E5 := Lib.hid (bt E4.out hb5)
            have HO5 := Lib.hid (HO4.out.ext hb5)
            have HV5 := Lib.hid (HV4.out.ext hb5)
            have HSv5 := Lib.hid (HSv4.out.ext hb5)
            have c1 : w5.cell? ⟨ge, 1, none⟩ = some (.int .i64 e.ino) := (Hb4.out.ext hb5).cell 1
            clear hb5 Hb4 HO4 HV4 HSv4 E4 HRt
            obtain ⟨z, Hz⟩ : ∃ z, Hid (whI t e.ino = z) := ⟨_, Lib.hid rfl⟩
            rw [Hz.out] at HZ ⊢
            cases hs : (fstI t e.ino).isSome
            · rw [hs] at HZ HAd
              have d3 : decide (z < 0) = true := HZ.out
              have HGn2 := Lib.hid (show growP N (treeW N k) (nd.names.take (j + 1)) = t ++ [N e.ino] by rw [HGn.out, HAd.out]; rfl)
              clear hs HZ HAd
              go_wp2_with (refine wpList_load_blk rfl _ _ rfl _ rfl _ _ HV5.out _ Tryz.underlying44 rfl Tryz.viewSize ?_)
              refine (HNo.out e.ino _ (HF.out.below E5.out)).mono ?_; rintro e w6 ⟨y, rfl, hy, hyo, hb6⟩
              have E6 := Lib.hid (bt E5.out hb6)
              have HO6 := Lib.hid (HO5.out.ext hb6)
              have HV6 := Lib.hid (HV5.out.ext hb6)
              have HSv6 := Lib.hid (HSv5.out.ext hb6)
              have HY := Lib.hid hy
              have HYo := Lib.hid (show ∀ g ∈ blocksOf (nrow y), (Value.slice At n ct).ownBlock ≠ some g from fun g hg hown => by
                have h1 := hyo g hg
                have h2 := (HO5.out.lt g hown).2
                omega)
              clear hy hyo hb6 HO5 HV5 HSv5 E5 c1
              go_wp2_with (refine wpList_build_row rfl _ _ _ rfl Tryz.underlying30 7 _ _ Tryz.ndInfo (by decide) (by decide) (ncells y) rfl rfl ?_)
              apply Stop.go; intro w7 Hg7 Hb7
              have E7 := Lib.hid (bt E6.out Hg7.out.1)
              have HO7 := Lib.hid (HO6.out.ext Hg7.out.1)
              have HV7 := Lib.hid (HV6.out.ext Hg7.out.1)
              have HSv7 := Lib.hid (HSv6.out.ext Hg7.out.1)
              have HY7 := Lib.hid (HY.out.below Hg7.out.1)
              have Z7 := Lib.hid (show w.heap.size + 1 ≤ w7.heap.size from HV7.out.lt)
              have HL1 := Lib.hid (show t.length + 1 ≤ 140737488355328 by rw [Hn.out]; have := HTl.out; omega)
              have HL2 := Lib.hid (show (t.length + 1) * 88 ≤ 140737488355328 by rw [Hn.out]; have := HTl.out; omega)
              generalize w6.heap.size = g6 at *
              clear Hg7 HO6 HV6 HSv6 E6 HY
              go_wp2_with (refine wpList_append_L RdN rfl _ _ _ _ rfl Tryz.underlying30 7 _ _ Tryz.ndInfo rfl (by decide) (w.heap.size + 1) _ t rfl HO7.out _ (ncells y) rfl Hb7.out rfl (ncells_one y) (N e.ino) ⟨y, rfl, HY7.out⟩ HYo.out Z7.out HL1.out HL2.out ?_)
              apply Stop.go; intro gn cn w8 HO8 HB8 HGw HGl
              have E8 := Lib.hid (E7.out.trans (HB8.out.mono (Nat.le_succ _)))
              have HV8 := Lib.hid (HV7.out.save (Save.of_grown HGw.out) (fun hf => by
                have := (HO7.out.lt _ hf).1
                omega))
              have HSv8 := Lib.hid (HSv7.out.trans HNv.out (Save.of_grown HGw.out))
              have HNv8 := Lib.hid (HNv.out.trans (show w0.heap.size ≤ w7.heap.size from HSv7.out.size) (Next.one (n := t.length + 1) (c := cn) HGl.out.1))
              rw [Hn.out] at HO8 HNv8
              rw [Hn.out]
              clear HB8 HGw HGl HO7 HV7 HSv7 E7 HY7 Hb7 HYo Z7 HL1 HL2
              go_wp2_with fail
              go_roundw
              case rel => exact ⟨j + 1, _, rfl, by go_num, by omega, by rw [HGn2.out]; exact HO8, E8, HV8, HSv8, HNv8⟩
              case measure => simp [intOf]; omega
            · rw [hs] at HZ HAd
              have d3 : decide (z < 0) = false := HZ.out
              have HGn2 := Lib.hid (show growP N (treeW N k) (nd.names.take (j + 1)) = t by rw [HGn.out, HAd.out]; rfl)
              clear hs HZ HAd
              go_wp2_with fail
              go_roundw
              case rel => exact ⟨j + 1, _, rfl, by go_num, by omega, by rw [HGn2.out]; exact HO5, E5, HV5, HSv5, HNv⟩
              case measure => simp [intOf]; omega
          · obtain rfl : j = m := by omega
            have d2 : decide ((j : Int) < (j : Int)) = false := by simp
            have HT := Lib.hid (show nd.names.take j = nd.names by rw [← HNl.out, List.take_length])
            rw [HT.out, HNk.out] at HO
            have HkN := Lib.hid (show k + 1 ≤ (treeW N (k + 1)).length by
              obtain ⟨u, hu⟩ := stepP_pre (N := N) (treeW N k) k
              show k + 1 ≤ (stepP N (treeW N k) k).length
              rw [hu, List.length_append, Hq.out]
              omega)
            go_wp2_with fail
            go_roundw
            case rel => exact ⟨k + 1, _, rfl, by go_num, HkN, HO, E, HV⟩
            case measure => simp [intOf]; omega
      · obtain rfl : k = q := by omega
        have d0 : decide ((k : Int) < (k : Int)) = false := by simp
        have HE := Lib.hid (HEn.out k Hq.out)
        have HSo := Lib.hid (tsort_any (w.heap.size + 1) v (treeW N k) (treeW_pos k) (by have := HWk.out.len; omega) HWk.out.once wr HO.out)
        subst hv
        clear hrd
        go_wp2_with fail
        refine (HSo.out).mono ?_; rintro e w5 ⟨rfl, ho5, hs5⟩
        have E5 := Lib.hid (E.out.trans (hs5.below (fun j hj => by have := (HO.out.lt j hj).1; omega) E.out.size))
        have HO5 := Lib.hid (ho5.low (Nat.le_succ _))
        clear ho5 hs5
        go_wp2_with fail
        go_ret
        exact ⟨_, rfl, by rw [HTr.out, HE.out]; exact HO5.out, E5.out⟩
  · have hkb : ((N 1).kind != 2) = true := by simpa using hk
    rw [if_neg hk] at HTr
    clear hk
    go_wp2_with fail
    go_ret
    exact ⟨_, rfl, by rw [HTr.out]; exact OwnL.nil_ _ _ _ _ _, E4.out⟩

end Go.Proofs.YtkakihbfhmiabaaGreat
