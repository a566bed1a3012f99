/-
  Contracts of package tree: Find (whether there is one), below, At.
-/
import Derived.Test.YtkakihbfhmiabaaGreatTre1
import Derived.Test.YtkakihbfhmiabaaGreatGrAX
import Derived.Test.YtkakihbfhmiabaaGreatGrAY
import Derived.Lib.SliceRun
namespace Go.Proofs.YtkakihbfhmiabaaGreat
open Go.RowKit
set_option maxRecDepth 10000

/-- A place, or -1. -/
def iO : Option Nat → Int
  | some k => (k : Int)
  | none => -1
theorem erows_one {l : List En} : ∀ r ∈ erows l, r.length = 2 ∧ ∀ u ∈ r, u.oneCell' = true := fun r hr => by
  unfold erows at hr
  obtain ⟨e, _, rfl⟩ := List.mem_map.1 hr
  refine ⟨rfl, fun u hu => ?_⟩
  simp only [erow, List.mem_cons, List.mem_nil_iff, or_false] at hu
  rcases hu with rfl | rfl <;> rfl
theorem Tryz.entInfo25 : (Tryz.prog.info? 56).map (fun i => (i.zero, i.size, i.bytes)) = some (some (.agg #[.string ⟨#[]⟩, .int .i64 0]), 2, 24) := by kernel_rfl
theorem Tryz.byInfo25 : (Tryz.prog.info? 5).map (fun i => (i.zero, i.size, i.bytes)) = some (some (.int .u8 0), 1, 1) := by kernel_rfl
set_option maxHeartbeats 400000 in
theorem tcloB_any (A : Option Addr) (n c : Nat) (l : List UInt8) (hn : l.length = n) (hm : n ≤ 140737488355328) (w : World) (hr : RB w A l) :
    Calls Tryz.prog 43 #[.slice A n c] w fun e w' => (∃ v, e = .returned v ∧ OwnB w' w.heap.size 5 v l) ∧ Below w.heap.size w w' := by
  have Hn := Lib.hid hn
  have Hr := Lib.hid hr
  clear hn hr
  have qn : ∀ w' : World, (binOp .eql 26 (.slice A n c) (.slice none 0 0)).run Tryz.prog w' = .ok (.bool A.isNone) w' := fun w' => by
    have := Lib.run_eql_slice_nil w' _ _ A n c 0 0 Tryz.underlying26
    cases A <;> exact this
  go_enter Tryz.func43, Tryz.ntmps43
  cases A with
  | none =>
    have h0 : l = [] := by
      cases l with
      | nil => rfl
      | cons x l =>
        obtain ⟨ad, e, _⟩ := Hr.out 0 (by simp)
        cases e
    have q1 := fun w' => qn w'
    simp only [Option.isNone_none] at q1
    clear qn
    go_wp2_with fail
    go_ret
    exact ⟨⟨_, rfl, by rw [h0]; exact OwnB.nil_ _ _ _⟩, Below.refl _ _⟩
  | some ad =>
    simp only [Option.isNone_some] at qn
    have HO := Lib.hid (OwnB.empty w 5)
    have D := Lib.hid (show Below w.heap.size w (w.alloc (.cells #[] 5)) from (Below.refl _ _).alloc (Nat.le_refl _) _)
    have HR := Lib.hid (Hr.out.below D.out)
    go_wp2_with (at_builtin; refine wpList_append_ownY rfl _ _ _ _ rfl Tryz.underlying26 Tryz.byInfo25 w.heap.size _ [] rfl HO.out D.out.size (some ad) n c l rfl Hn.out HR.out (by simp; omega) ?_)
    apply Stop.go; intro v2 w2 Ho2 Hb2
    go_wp2_with fail
    go_ret
    exact ⟨⟨_, rfl, by simpa using Ho2.out⟩, D.out.trans Hb2.out⟩
set_option maxHeartbeats 400000 in
theorem tcloE_any (A : Option Addr) (n c : Nat) (l : List En) (hn : l.length = n) (hm : n ≤ 4096) (w : World) (hr : RN w A 2 (erows l)) :
    Calls Tryz.prog 44 #[.slice A n c] w fun e w' => (∃ v, e = .returned v ∧ OwnN w' w.heap.size 56 2 v (erows l)) ∧ Below w.heap.size w w' := by
  have Hn := Lib.hid (show (erows l).length = n by rw [erows_len]; exact hn)
  have Hr := Lib.hid hr
  have HO1 := Lib.hid (erows_one (l := l))
  have h00 : A = none → l = [] := fun hA => by
    cases l with
    | nil => rfl
    | cons x l =>
      obtain ⟨ad, _, e, _⟩ := hr 0 (by simp [erows]) 0 (by omega)
      rw [hA] at e
      cases e
  have H0 := Lib.hid h00
  clear hn hr h00
  have qn : ∀ w' : World, (binOp .eql 27 (.slice A n c) (.slice none 0 0)).run Tryz.prog w' = .ok (.bool A.isNone) w' := fun w' => by
    have := Lib.run_eql_slice_nil w' _ _ A n c 0 0 Tryz.underlying27
    cases A <;> exact this
  go_enter Tryz.func44, Tryz.ntmps44
  cases A with
  | none =>
    have q1 := fun w' => qn w'
    simp only [Option.isNone_none] at q1
    have H9 := Lib.hid (H0.out rfl)
    clear qn H0
    go_wp2_with fail
    go_ret
    exact ⟨⟨_, rfl, by rw [H9.out]; exact OwnN.nil_ _ _ _ _⟩, Below.refl _ _⟩
  | some ad =>
    simp only [Option.isNone_some] at qn
    go_wp2_with (refine wpList_build0n rfl _ _ rfl Tryz.underlying27 2 Tryz.entSize ?_)
    apply Stop.go; intro w1 Hg1 Hb1
    go_wp2_with (at_builtin; refine wpList_append_rows rfl _ _ _ _ rfl Tryz.underlying27 2 _ _ Tryz.entInfo25 rfl (by decide) w.heap.size _ [] rfl (OwnN.zero _ _ _ _ _ (Nat.le_refl _) Hb1.out) (some ad) n c (erows l) rfl HO1.out Hn.out (Hr.out.below Hg1.out.1) Hg1.out.1.size (by simp; omega) (by simp; omega) ?_)
    apply Stop.go; intro v2 w2 Ho2 Hb2 Hg2
    go_wp2_with fail
    go_ret
    exact ⟨⟨_, rfl, by simpa using Ho2.out⟩, Hg1.out.1.trans Hb2.out⟩

set_option maxHeartbeats 3200000 in
theorem tbelow_any (A : Option Addr) (n cap : Nat) (t : List Nd) (hn : t.length = n) (hm : n ≤ maxLen) (k : Nat) (nd : Nd) (hk : t[k]? = some nd) (hml : nd.names.length ≤ 4096) (s : ByteArray) (w : World) (hr : RdL RdN w A 7 t) :
    Calls Tryz.prog 48 #[.slice A n cap, .int .i64 k, .string s] w fun e w' => (∃ z : Int, e = .returned (.int .i64 z) ∧ z = iO (belN t nd s)) ∧ Below w.heap.size w w' := by
  have HW := Lib.hid (fun i w h => twhere_any A n cap t hn hm i w h)
  have HR := Lib.hid hr
  have hlt : k < n := by rw [← hn]; exact (List.getElem?_eq_some_iff.1 hk).1
  obtain ⟨ad, x, rfl, hx, hc⟩ := hr.node hk
  have p0 : (0 : Int) ≤ (k : Int) := by omega
  have p1 : (k : Int) < (n : Int) := by omega
  obtain ⟨q, Hq⟩ : ∃ q, Hid (x.m = q) := ⟨_, Lib.hid rfl⟩
  have c6 : w.cell? ⟨(ad.add (k * 7)).block, (ad.add (k * 7)).off + 6, none⟩ = some (.slice x.S x.m x.d) := node_at hc 6 _ rfl
  rw [Hq.out] at c6
  have HNl := Lib.hid (show nd.names.length = q by rw [← Hq.out]; exact hx.sn.symm)
  have HRN := Lib.hid hx.names
  have hq4 : q ≤ 4096 := by rw [← HNl.out]; exact hml
  clear hn hm hk hr hx hc hml
  go_enter Tryz.func48, Tryz.ntmps48
  go_wp2_with fail
  go_loopw [15] (fun a wr => ∃ j : Nat, j ≤ q ∧ a = .int .i64 j ∧ Hid (∀ i, i < j → ∀ m, nd.names[i]? = some m → m.name ≠ s) ∧ Hid (Below w.heap.size w wr)) (fun z _ => q - (intOf z).toNat)
  case atStart => exact ⟨0, Nat.zero_le _, rfl, Lib.hid (fun i hi => by omega), Lib.hid (Below.refl _ _)⟩
  case round =>
    obtain ⟨j, hj, rfl, HNo, F⟩ := hrel
    by_cases hlj : j < q
    · have d2 : decide ((j : Int) < (q : Int)) = true := by simp; omega
      have q0 : (0 : Int) ≤ (j : Int) := by omega
      have q1 : (j : Int) < (q : Int) := by omega
      have hjl : j < nd.names.length := by rw [HNl.out]; exact hlj
      obtain ⟨e, he⟩ : ∃ e, nd.names[j]? = some e := ⟨_, List.getElem?_eq_getElem hjl⟩
      have h4 := HRN.out.below F.out
      obtain ⟨ae, hae⟩ := h4.adr (k := j) (by rw [erows_len]; exact hjl) (by decide)
      rw [hae] at h4
      have HRe := Lib.hid (h4.row (erow_at he) rfl)
      have HEj := Lib.hid he
      clear h4 he
      rw [hae] at *
      go_wp2_with (first | refine wpList_load_cells rfl _ _ rfl (ae.add (j * 2)) rfl _ Tryz.underlying56 (erow e) Tryz.entSize HRe.out ?_ | refine wpList_alloc_row rfl _ rfl _ Tryz.entZero25 ?_)
      apply Stop.go; intro w3 Hg3 Hb3
      go_wp2_with (refine wpList_store_arr rfl _ _ _ rfl _ (ecells e) rfl rfl _ _ Hb3.out Tryz.entSize rfl (by simp [ecells, Value.oneCell']) ?_)
      apply Stop.go; intro w4 Ho4 Hb4
      have c0 : w4.cell? ⟨wr.heap.size, 0, none⟩ = some (.string e.name) := Hb4.out.cell 0
      have c1 : w4.cell? ⟨wr.heap.size, 1, none⟩ = some (.int .i64 e.ino) := Hb4.out.cell 1
      have E4 := Lib.hid (bt F.out (bonly Hg3.out.1 Ho4.out (Nat.le_refl _)))
      have HR4 := Lib.hid (HR.out.below E4.out)
      clear Hg3 Hb3 Ho4 Hb4 HRe F
      by_cases hi : e.name = s
      · have hb : (e.name.toList == s.toList) = true := by rw [bytes_eq]; exact decide_eq_true hi
        have HB := Lib.hid (show belN t nd s = belE t (some e) by unfold belN; rw [fstN_at HEj.out hi HNo.out])
        clear hi
        by_cases hneg : e.ino < 0
        · have d3 : decide (e.ino < 0) = true := decide_eq_true hneg
          have HE := Lib.hid (show belE t (some e) = none by unfold belE; simp only; rw [if_pos hneg])
          clear hneg
          go_wp2_with fail
          go_ret
          exact ⟨⟨_, rfl, by rw [HB.out, HE.out]; rfl⟩, E4.out⟩
        · have d3 : decide (e.ino < 0) = false := decide_eq_false hneg
          have HE := Lib.hid (show belE t (some e) = fstI t e.ino by unfold belE; simp only; rw [if_neg hneg])
          clear hneg
          go_wp2_with fail
          refine (HW.out e.ino _ HR4.out).mono ?_; rintro e w5 ⟨rfl, hb5⟩
          have E5 := Lib.hid (bt E4.out hb5)
          clear hb5
          go_wp2_with fail
          go_ret
          exact ⟨⟨_, rfl, by rw [HB.out, HE.out]; rfl⟩, E5.out⟩
      · have hb : (e.name.toList == s.toList) = false := by rw [bytes_eq]; exact decide_eq_false hi
        have HE := Lib.hid hi
        clear hi
        go_wp2_with fail
        go_roundw
        case rel =>
          refine ⟨j + 1, by omega, by go_num, Lib.hid (fun i hi m hm' => ?_), E4⟩
          rcases Nat.lt_or_ge i j with h | h
          · exact HNo.out i h m hm'
          · obtain rfl : i = j := by omega
            rw [HEj.out] at hm'
            injection hm' with hm'
            rw [← hm']
            exact HE.out
        case measure => simp [intOf]; omega
    · obtain rfl : j = q := by omega
      have d2 : decide ((j : Int) < (j : Int)) = false := by simp
      have HB := Lib.hid (show belN t nd s = none by
        unfold belN
        rw [fstN_none fun e he => ?_]
        · rfl
        · obtain ⟨i, hi, rfl⟩ := List.getElem_of_mem he
          exact HNo.out i (by have := HNl.out; omega) _ (List.getElem?_eq_getElem hi))
      go_wp2_with fail
      go_ret
      exact ⟨⟨_, rfl, by rw [HB.out]; rfl⟩, F.out⟩

theorem noneI (o : Option Nat) (z : Int) (hz : z = iO o) : decide (z < 0) = o.isNone := by
  cases o with
  | none => subst hz; rfl
  | some k =>
    subst hz
    have h : ¬ ((k : Int) < 0) := by omega
    exact decide_eq_false h
set_option maxHeartbeats 3200000 in
theorem tat_any (A : Option Addr) (n cap : Nat) (t : List Nd) (hn : t.length = n) (hm : n ≤ 4096) (hmn : ∀ x ∈ t, x.names.length ≤ 4096) (A' : Option Addr) (q c' : Nat) (l : List ByteArray) (hq : l.length = q) (hqm : q ≤ maxLen) (w : World) (hr : RdL RdN w A 7 t) (hr' : RC w A' (svals l)) :
    Calls Tryz.prog 21 #[.slice A n cap, .slice A' q c'] w fun e w' => (∃ i : Int, e = .returned (.tuple #[.int .i64 i, .bool (atP t (fstI t 1) l).isSome]) ∧ ∀ k, atP t (fstI t 1) l = some k → ∃ x, t[k]? = some x ∧ i = x.ino) ∧ Below w.heap.size w w' := by
  unfold maxLen at hqm
  have HWh := Lib.hid (fun w h => twhere_any A n cap t hn (by unfold maxLen; omega) 1 w h)
  rw [show whI t 1 = iO (fstI t 1) from rfl] at HWh
  obtain ⟨o0, ho0⟩ : ∃ o, fstI t 1 = o := ⟨_, rfl⟩
  have HLt := Lib.hid (fun (l : List ByteArray) (k : Nat) (h : atP t o0 l = some k) => show k < t.length from atP_lt (fun j h => fstI_lt (by rw [ho0]; exact h)) h)
  rw [ho0] at HWh ⊢
  clear ho0
  obtain ⟨oF, hoF⟩ : ∃ o, atP t o0 l = o := ⟨_, rfl⟩
  have HFin := Lib.hid hoF
  rw [hoF]
  clear hoF
  obtain ⟨z0, hz0⟩ : ∃ z, iO o0 = z := ⟨_, rfl⟩
  have HZ0 := Lib.hid hz0.symm
  rw [hz0] at HWh
  clear hz0
  have HBe := Lib.hid (fun k nd hk s w h => tbelow_any A n cap t hn (by unfold maxLen; omega) k nd hk (hmn nd (List.mem_of_getElem? hk)) s w h)
  have HR := Lib.hid hr
  have HL := Lib.hid hr'
  have Hn := Lib.hid hn
  have Hq := Lib.hid hq
  clear hn hmn hr hr' hq
  go_enter Tryz.func21, Tryz.ntmps21
  go_wp2_with fail
  refine (HWh.out _ HR.out).mono ?_; rintro e w1 ⟨rfl, hb1⟩
  have E1 := Lib.hid hb1
  clear hb1 HWh
  go_wp2_with fail
  go_loopw [6, 13] (fun a b wr => ∃ (j : Nat) (z : Int), j ≤ q ∧ a = .int .i64 z ∧ b = .int .i64 j ∧ Hid (z = iO (atP t o0 (l.take j))) ∧ Hid (Below w.heap.size w wr)) (fun _ z _ => q - (intOf z).toNat)
  case atStart => exact ⟨0, z0, Nat.zero_le _, rfl, rfl, HZ0, E1⟩
  case round =>
    obtain ⟨j, z, hj, rfl, rfl, HZ, F⟩ := hrel
    by_cases hlj : j < q
    · have d2 : decide ((j : Int) < (q : Int)) = true := by simp; omega
      have q0 : (0 : Int) ≤ (j : Int) := by omega
      have q1 : (j : Int) < (q : Int) := by omega
      have hjl : j < l.length := by rw [Hq.out]; exact hlj
      obtain ⟨al, rfl, hcl⟩ := (HL.out.below F.out).str j hjl
      have HS := Lib.hid (atP_next (t := t) (o := o0) (List.getElem?_eq_getElem hjl))
      have HSt := Lib.hid (fun h => atP_stop (t := t) (o := o0) (l := l) (k := j) h)
      have HZn := Lib.hid (noneI _ z HZ.out)
      obtain ⟨s, hs⟩ : ∃ s, l[j] = s := ⟨_, rfl⟩
      rw [hs] at hcl HS
      clear hs
      have HLt' := Lib.hid (fun k h => HLt.out (l.take j) k h)
      obtain ⟨o, ho⟩ : ∃ o, atP t o0 (l.take j) = o := ⟨_, rfl⟩
      rw [ho] at HZ HS HSt HZn HLt'
      clear ho
      cases o with
      | none =>
        have d3 : decide (z < 0) = true := HZn.out
        have hN : oF = none := HFin.out.symm.trans (HSt.out rfl)
        subst hN
        go_wp2_with fail
        go_ret2
        exact ⟨⟨_, rfl⟩, F.out⟩
      | some k =>
        have d3 : decide (z < 0) = false := HZn.out
        have hzk : z = (k : Int) := HZ.out
        subst hzk
        have hkl : k < t.length := HLt'.out k rfl
        obtain ⟨nd, hnd⟩ : ∃ nd, t[k]? = some nd := ⟨_, List.getElem?_eq_getElem hkl⟩
        have HB := Lib.hid (HBe.out k nd hnd s)
        have HSk := Lib.hid (show atP t o0 (l.take (j + 1)) = belN t nd s by
          rw [HS.out]
          show belP t k s = _
          unfold belP
          rw [hnd])
        clear hnd
        clear HS HZ HZn HSt hkl HLt'
        go_wp2_with fail
        refine (HB.out _ (HR.out.below F.out)).mono ?_; rintro e w5 ⟨⟨z5, rfl, hz5⟩, hb5⟩
        have E5 := Lib.hid (bt F.out hb5)
        rw [← HSk.out] at hz5
        have HZ5 := Lib.hid hz5
        clear hb5 hz5 hcl
        go_wp2_with fail
        go_roundw
        case rel => exact ⟨j + 1, z5, by omega, rfl, by go_num, HZ5, E5⟩
        case measure => simp [intOf]; omega
    · obtain rfl : j = q := by omega
      have d2 : decide ((j : Int) < (j : Int)) = false := by simp
      have HT := Lib.hid (show l.take j = l by rw [← Hq.out, List.take_length])
      have HLt' := Lib.hid (fun k h => HLt.out l k h)
      rw [HT.out, HFin.out] at HZ
      rw [HFin.out] at HLt'
      have HZn := Lib.hid (noneI _ z HZ.out)
      cases oF with
      | none =>
        have d3 : decide (z < 0) = true := HZn.out
        go_wp2_with fail
        go_ret2
        exact ⟨⟨_, rfl, fun k h => by cases h⟩, F.out⟩
      | some k =>
        have d3 : decide (z < 0) = false := HZn.out
        have hzk : z = (k : Int) := HZ.out
        subst hzk
        have hkl : k < t.length := HLt'.out k rfl
        obtain ⟨nd, hnd⟩ : ∃ nd, t[k]? = some nd := ⟨_, List.getElem?_eq_getElem hkl⟩
        have p0 : (0 : Int) ≤ (k : Int) := by omega
        have p1 : (k : Int) < (n : Int) := by have := Hn.out; omega
        obtain ⟨ad, x, rfl, hx, hc⟩ := (HR.out.below F.out).node hnd
        have c0 : wr.cell? (ad.add (k * 7)) = some (.int .i64 x.ino) := by
          have := hc 0 _ rfl
          rwa [add_zero_addr] at this
        have HX := Lib.hid hx.ino
        have HN := Lib.hid hnd
        clear hx hc hnd HZ HZn HLt'
        go_wp2_with fail
        go_ret2
        exact ⟨⟨_, rfl, fun k' h => by
          injection h with h
          subst h
          exact ⟨nd, HN.out, HX.out⟩⟩, F.out⟩

end Go.Proofs.YtkakihbfhmiabaaGreat
