/-
  Contracts of package tree: where, Count.
-/
import Derived.Test.YtkakihbfhmiabaaGreatGrAW
import Derived.Test.YtkakihbfhmiabaaGreatGrAC
namespace Go.Proofs.YtkakihbfhmiabaaGreat
open Go.RowKit
set_option maxRecDepth 10000

theorem Tryz.entZero25 : (Tryz.prog.info? 56).map (·.zero) = some (some (.agg #[.string ⟨#[]⟩, .int .i64 0])) := by kernel_rfl
theorem Tryz.ndSize : (Tryz.prog.info? 51).map (·.size) = some 7 := by kernel_rfl
theorem Tryz.ndZero : (Tryz.prog.info? 51).map (·.zero) = some (some (.agg (ncells ⟨0, 0, 0, 0, 0, none, 0, 0, none, 0, 0⟩))) := by kernel_rfl
theorem Tryz.ndInfo : (Tryz.prog.info? 51).map (fun i => (i.zero, i.size, i.bytes)) = some (some (.agg (ncells ⟨0, 0, 0, 0, 0, none, 0, 0, none, 0, 0⟩)), 7, 88) := by kernel_rfl

set_option maxHeartbeats 800000 in
theorem twh1_any (x : Nc) (i : Int) (g : Nat) (w : World) (hg : Blk w g 3 #[.int .i64 i]) :
    Calls Tryz.prog 66 #[.agg (ncells x), .pointer (some ⟨g, 0, none⟩)] w fun e w' => e = .returned (.bool (decide (x.ino = i))) ∧ Below w.heap.size w w' := by
  have HG := Lib.hid hg
  obtain ⟨b, hb⟩ : ∃ b, (x.ino == i) = b := ⟨_, rfl⟩
  have hd : decide (x.ino = i) = b := by rw [← hb]; rw [Bool.eq_iff_iff]; simp
  rw [hd]
  clear hd hg
  go_enter Tryz.func66, Tryz.ntmps66
  go_wp2_with (refine wpList_box_row rfl _ _ rfl _ rfl ?_)
  apply Stop.go; intro w1 Hg1 Hb1
  have c0 : w1.cell? ⟨w.heap.size, 0, none⟩ = some (.int .i64 x.ino) := Hb1.out.cell 0
  have c1 : w1.cell? ⟨g, 0, none⟩ = some (.int .i64 i) := (HG.out.ext Hg1.out.1).cell 0
  go_wp2_with fail
  go_ret
  exact ⟨rfl, Hg1.out.1⟩

set_option maxHeartbeats 1600000 in
theorem tidx_any (A : Option Addr) (n cap : Nat) (t : List Nd) (hn : t.length = n) (hm : n ≤ maxLen) (i : Int) (g : Nat) (w : World) (hr : RdL RdN w A 7 t) (hg : Blk w g 3 #[.int .i64 i]) :
    Calls Tryz.prog 65 #[.slice A n cap, .func (.func 66) #[] #[.pointer (some ⟨g, 0, none⟩)]] w fun e w' => e = .returned (.int .i64 (whI t i)) ∧ Below w.heap.size w w' := by
  unfold maxLen at hm
  have Hn := Lib.hid hn
  have HR := Lib.hid hr
  have HG := Lib.hid hg
  have HC := Lib.hid (fun (x : Nc) (w : World) h => twh1_any x i g w h)
  clear hn hr hg
  go_enter Tryz.func65, Tryz.ntmps65
  go_wp2_with fail
  go_loopw [8] (fun z wr => ∃ k : Nat, k ≤ n ∧ z = .int .i64 k ∧ Hid (∀ j, j < k → ∀ m, t[j]? = some m → m.ino ≠ i) ∧ Hid (Below w.heap.size w wr)) (fun z _ => n - (intOf z).toNat)
  case atStart => exact ⟨0, Nat.zero_le _, rfl, Lib.hid (fun j hj => by omega), Lib.hid (Below.refl _ _)⟩
  case round =>
    obtain ⟨k, hk, rfl, HNo, E⟩ := hrel
    by_cases hlt : k < n
    · have d1 : decide ((k : Int) < (n : Int)) = true := by simp; omega
      have p0 : (0 : Int) ≤ (k : Int) := by omega
      have p1 : (k : Int) < (n : Int) := by omega
      obtain ⟨nd, hnd⟩ : ∃ nd, t[k]? = some nd := ⟨_, List.getElem?_eq_getElem (by rw [Hn.out]; exact hlt)⟩
      obtain ⟨ad, x, rfl, hx, hc⟩ := (HR.out.below E.out).node hnd
      have HRw := Lib.hid hc
      have HI := Lib.hid hx.ino
      have HGr := Lib.hid (HG.out.ext E.out)
      have HNd := Lib.hid hnd
      clear hc hx hnd
      go_wp2_with (refine wpList_load_cells rfl _ _ rfl (ad.add (k * 7)) rfl _ Tryz.underlying51 (nrow x) Tryz.ndSize HRw.out ?_)
      refine (HC.out x _ HGr.out).mono ?_; rintro e w1 ⟨rfl, hb1⟩
      have E1 := Lib.hid (bt E.out hb1)
      clear hb1 HRw
      rw [HI.out]
      by_cases he : nd.ino = i
      · have hd : decide (nd.ino = i) = true := decide_eq_true he
        rw [hd]
        have HW := Lib.hid (whI_some (fstI_of HNd.out he HNo.out))
        go_wp2_with fail
        go_ret
        rw [HW.out]
        exact ⟨rfl, E1.out⟩
      · have hd : decide (nd.ino = i) = false := decide_eq_false he
        rw [hd]
        have HE := Lib.hid he
        clear he hd
        go_wp2_with fail
        go_roundw
        case rel =>
          refine ⟨k + 1, by omega, by go_num, Lib.hid (fun j hj m hm' => ?_), E1⟩
          rcases Nat.lt_or_ge j k with h | h
          · exact HNo.out j h m hm'
          · obtain rfl : j = k := by omega
            rw [HNd.out] at hm'
            injection hm' with hm'
            rw [← hm']
            exact HE.out
        case measure => simp [intOf]; omega
    · obtain rfl : k = n := by omega
      have d1 : decide ((k : Int) < (k : Int)) = false := by simp
      have HW := Lib.hid (whI_none (t := t) (i := i) (fstI_none.2 fun m hm' => by
        obtain ⟨j, hj, rfl⟩ := List.getElem_of_mem hm'
        exact HNo.out j (by have := Hn.out; omega) _ (List.getElem?_eq_getElem hj)))
      go_wp2_with fail
      go_ret
      rw [HW.out]
      exact ⟨rfl, E.out⟩

set_option maxHeartbeats 1600000 in
theorem twhere_any (A : Option Addr) (n cap : Nat) (t : List Nd) (hn : t.length = n) (hm : n ≤ maxLen) (i : Int) (w : World) (hr : RdL RdN w A 7 t) :
    Calls Tryz.prog 39 #[.slice A n cap, .int .i64 i] w fun e w' => e = .returned (.int .i64 (whI t i)) ∧ Below w.heap.size w w' := by
  have HC := Lib.hid (fun g (w : World) h h' => tidx_any A n cap t hn hm i g w h h')
  have HR := Lib.hid hr
  have hmf : ∀ (fn : Fn) (first cap : Array Value) (w : World), (Instr.makeFunc fn first cap).run Tryz.prog w = .ok (.func fn first cap) w := fun _ _ _ _ => rfl
  have Hb1 := Lib.hid (Blk.new w 3 #[.int .i64 i])
  have D1 := Lib.hid (show Below w.heap.size w (w.alloc (.cells #[.int .i64 i] 3)) from (Below.refl _ _).alloc (Nat.le_refl _) _)
  have HR1 := Lib.hid (HR.out.below D1.out)
  clear hn hm hr
  generalize whI t i = z at *
  go_enter Tryz.func39, Tryz.ntmps39
  go_wp2_with fail
  refine (HC.out _ _ HR1.out Hb1.out).mono ?_; rintro e w2 ⟨rfl, hb2⟩
  have E2 := Lib.hid (bt D1.out hb2)
  clear hb2
  go_wp2_with fail
  go_ret
  exact ⟨rfl, E2.out⟩

set_option maxHeartbeats 3200000 in
theorem tcount_any (A : Option Addr) (n cap : Nat) (t : List Nd) (hn : t.length = n) (hm : n ≤ 4096) (hmn : ∀ x ∈ t, x.names.length ≤ 4096) (i : Int) (w : World) (hr : RdL RdN w A 7 t) :
    Calls Tryz.prog 18 #[.slice A n cap, .int .i64 i] w fun e w' => e = .returned (.int .i64 (cntT t i)) ∧ Below w.heap.size w w' := by
  have Hn := Lib.hid hn
  have HR := Lib.hid hr
  have HL := Lib.hid hmn
  have HB := Lib.hid (show ∀ k, cntT (t.take k) i ≤ 4096 * k from fun k => by
    induction k with
    | zero => simp [cntT]
    | succ k ih =>
      by_cases hk : k < t.length
      · rw [cntT_next (List.getElem?_eq_getElem hk)]
        have := cntE_len (t[k]).names i
        have := hmn _ (List.getElem_mem hk)
        omega
      · rw [List.take_of_length_le (by omega)] at ih ⊢
        omega)
  clear hn hr hmn
  go_enter Tryz.func18, Tryz.ntmps18
  go_wp2_with fail
  go_loopw [5, 12] (fun a b wr => ∃ k : Nat, k ≤ n ∧ a = .int .i64 ((cntT (t.take k) i : Nat) : Int) ∧ b = .int .i64 k ∧ Hid (Below w.heap.size w wr)) (fun _ z _ => n - (intOf z).toNat)
  case atStart => exact ⟨0, Nat.zero_le _, rfl, rfl, Lib.hid (Below.refl _ _)⟩
  case round =>
    obtain ⟨k, hk, rfl, rfl, E⟩ := hrel
    by_cases hlt : k < n
    · have d1 : decide ((k : Int) < (n : Int)) = true := by simp; omega
      have p0 : (0 : Int) ≤ (k : Int) := by omega
      have p1 : (k : Int) < (n : Int) := by omega
      obtain ⟨nd, hnd⟩ : ∃ nd, t[k]? = some nd := ⟨_, List.getElem?_eq_getElem (by rw [Hn.out]; exact hlt)⟩
      obtain ⟨ad, x, rfl, hx, hc⟩ := (HR.out.below E.out).node hnd
      have HRw := Lib.hid hc
      have HX := Lib.hid hx
      have HC := Lib.hid (cntT_next hnd i)
      have HBk := Lib.hid (HB.out k)
      have HM := Lib.hid (HL.out nd (List.mem_of_getElem? hnd))
      generalize cntT (t.take k) i = C at *
      clear hc hx hnd
      go_wp2_with (first | refine wpList_load_cells rfl _ _ rfl (ad.add (k * 7)) rfl _ Tryz.underlying51 (nrow x) Tryz.ndSize HRw.out ?_ | refine wpList_alloc_row rfl _ rfl _ Tryz.ndZero ?_)
      apply Stop.go; intro w1 Hg1 Hb1
      go_wp2_with (refine wpList_store_arr rfl _ _ _ rfl _ (ncells x) rfl rfl _ _ Hb1.out Tryz.ndSize rfl (ncells_one x) ?_)
      apply Stop.go; intro w2 Ho2 Hb2
      have c6 : w2.cell? ⟨wr.heap.size, 6, none⟩ = some (.slice x.S x.m x.d) := Hb2.out.cell 6
      have D2 := Lib.hid (bonly Hg1.out.1 Ho2.out (Nat.le_refl _))
      have E2 := Lib.hid (bt E.out D2.out)
      have HX2 := Lib.hid (HX.out.below D2.out)
      clear Hg1 Hb1 Ho2 Hb2 D2 HRw E HX
      generalize wr.heap.size = gn at *
      obtain ⟨q, Hq⟩ : ∃ q, Hid (x.m = q) := ⟨_, Lib.hid rfl⟩
      rw [Hq.out] at c6
      have HNl := Lib.hid (show nd.names.length = q by rw [← Hq.out]; exact HX2.out.sn.symm)
      have HRN := Lib.hid HX2.out.names
      have hq4 : q ≤ 4096 := by have := HM.out; have := HNl.out; omega
      have hC0 := HBk.out
      go_wp2_with fail
      go_loopw [5, 19] (fun a b wi => ∃ j : Nat, j ≤ q ∧ a = .int .i64 ((C + cntE (nd.names.take j) i : Nat) : Int) ∧ b = .int .i64 j ∧ Hid (Below w2.heap.size w2 wi)) (fun _ z _ => q - (intOf z).toNat)
      case atStart => exact ⟨0, Nat.zero_le _, by simp [cntE], rfl, Lib.hid (Below.refl _ _)⟩
      case round =>
        obtain ⟨j, hj, rfl, rfl, F⟩ := hrel
        by_cases hlj : j < q
        · have d2 : decide ((j : Int) < (q : Int)) = true := by simp; omega
          have q0 : (0 : Int) ≤ (j : Int) := by omega
          have q1 : (j : Int) < (q : Int) := by omega
          have hjl : j < nd.names.length := by rw [HNl.out]; exact hlj
          obtain ⟨e, he⟩ : ∃ e, nd.names[j]? = some e := ⟨_, List.getElem?_eq_getElem hjl⟩
          have h4 := HRN.out.below F.out
          obtain ⟨ae, hae⟩ := h4.adr (k := j) (by rw [erows_len]; exact hjl) (by decide)
          rw [hae] at h4
          have HRe := Lib.hid (h4.row (erow_at he) rfl)
          have HCn := Lib.hid (cntE_next he i)
          have hcl := cntE_len (nd.names.take j) i
          rw [List.length_take] at hcl
          generalize cntE (nd.names.take j) i = D at *
          clear h4 he
          rw [hae] at *
          go_wp2_with (first | refine wpList_load_cells rfl _ _ rfl (ae.add (j * 2)) rfl _ Tryz.underlying56 (erow e) Tryz.entSize HRe.out ?_ | refine wpList_alloc_row rfl _ rfl _ Tryz.entZero25 ?_)
          apply Stop.go; intro w3 Hg3 Hb3
          go_wp2_with (refine wpList_store_arr rfl _ _ _ rfl _ (ecells e) rfl rfl _ _ Hb3.out Tryz.entSize rfl (by simp [ecells, Value.oneCell']) ?_)
          apply Stop.go; intro w4 Ho4 Hb4
          have c1 : w4.cell? ⟨wr.heap.size, 1, none⟩ = some (.int .i64 e.ino) := Hb4.out.cell 1
          have E4 := Lib.hid (bt F.out (bonly Hg3.out.1 Ho4.out (Nat.le_refl _)))
          clear Hg3 Hb3 Ho4 Hb4 HRe F
          by_cases hi : e.ino = i
          · have hb : (e.ino == i) = true := by simpa using hi
            rw [if_pos hi] at HCn
            clear hi
            go_wp2_with fail
            go_roundw
            case rel => exact ⟨j + 1, by omega, by rw [HCn.out]; go_num, by go_num, E4⟩
            case measure => simp [intOf]; omega
          · have hb : (e.ino == i) = false := by simpa using hi
            rw [if_neg hi] at HCn
            clear hi
            go_wp2_with fail
            go_roundw
            case rel => exact ⟨j + 1, by omega, by rw [HCn.out]; rfl, by go_num, E4⟩
            case measure => simp [intOf]; omega
        · obtain rfl : j = q := by omega
          have d2 : decide ((j : Int) < (j : Int)) = false := by simp
          have HT := Lib.hid (show C + cntE (nd.names.take j) i = cntT (t.take (k + 1)) i by rw [HC.out, ← HNl.out, List.take_length])
          have E5 := Lib.hid (bt E2.out F.out)
          go_wp2_with fail
          go_roundw
          case rel => exact ⟨k + 1, by omega, by rw [HT.out], by go_num, E5⟩
          case measure => simp [intOf]; omega
    · obtain rfl : k = n := by omega
      have d1 : decide ((k : Int) < (k : Int)) = false := by simp
      have HT := Lib.hid (show t.take k = t by rw [← Hn.out, List.take_length])
      go_wp2_with fail
      go_ret
      rw [HT.out]
      exact ⟨rfl, E.out⟩

end Go.Proofs.YtkakihbfhmiabaaGreat
