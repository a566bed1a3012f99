/-
  Contracts of package tree: names (by slices.DeleteFunc).
-/
import Derived.Test.YtkakihbfhmiabaaGreatTre2
import Derived.Test.YtkakihbfhmiabaaGreatRowD
import Derived.Test.YtkakihbfhmiabaaGreatDrd4
import Derived.Test.YtkakihbfhmiabaaGreatGrAN
namespace Go.Proofs.YtkakihbfhmiabaaGreat
open Go.RowKit
set_option maxRecDepth 10000

/-- What is struck from the names of a directory. -/
def dropE (l : Lay14) (T : Int → List UInt8) (e : En) : Bool := !isKd (fld (vIno l T e.ino) 0)
/-- Those that stay, of the first k. -/
def keepE (l : Lay14) (T : Int → List UInt8) (L : List En) : List En := L.filter fun e => isKd (fld (vIno l T e.ino) 0)
section
variable {l : Lay14} {T : Int → List UInt8} {L : List En}
theorem keepE_len (L : List En) : (keepE l T L).length ≤ L.length := List.length_filter_le _ _
theorem keepE_no {k : Nat} {e : En} (h : L[k]? = some e) (hd : dropE l T e = true) : keepE l T (L.take (k + 1)) = keepE l T (L.take k) := by
  obtain ⟨hk, rfl⟩ := List.getElem?_eq_some_iff.1 h
  unfold keepE
  unfold dropE at hd
  rw [List.take_succ_eq_append_getElem hk, List.filter_append, List.filter_cons_of_neg (by simpa using hd)]
  simp
theorem keepE_yes {k : Nat} {e : En} (h : L[k]? = some e) (hd : dropE l T e = false) : keepE l T (L.take (k + 1)) = keepE l T (L.take k) ++ [e] := by
  obtain ⟨hk, rfl⟩ := List.getElem?_eq_some_iff.1 h
  unfold keepE
  unfold dropE at hd
  rw [List.take_succ_eq_append_getElem hk, List.filter_append, List.filter_cons_of_pos (by simpa using hd)]
  simp
theorem keepE_all (h : ∀ e ∈ L, dropE l T e = false) : keepE l T L = L := by
  unfold keepE
  rw [List.filter_eq_self]
  intro e he
  have := h e he
  unfold dropE at this
  simpa using this
/-- What the row holds under way: those that stay, in front; behind place j what it had. -/
structure DI (l : Lay14) (T : Int → List UInt8) (L M : List En) (i j : Nat) : Prop where
  len : M.length = L.length
  lt : i < j
  le : j ≤ L.length
  front : M.take i = keepE l T (L.take j)
  back : ∀ q, j ≤ q → M[q]? = L[q]?
theorem DI.start {i : Nat} {e : En} (h : L[i]? = some e) (hd : dropE l T e = true) (hf : ∀ q, q < i → ∀ m, L[q]? = some m → dropE l T m = false) : DI l T L L i (i + 1) := by
  obtain ⟨hi, _⟩ := List.getElem?_eq_some_iff.1 h
  refine ⟨rfl, by omega, by omega, ?_, fun _ _ => rfl⟩
  rw [keepE_no h hd, keepE_all]
  intro m hm
  obtain ⟨q, hq, rfl⟩ := List.getElem_of_mem hm
  rw [List.length_take] at hq
  exact hf q (by omega) _ (by rw [List.getElem_take]; exact List.getElem?_eq_getElem _)
theorem DI.no {M : List En} {i j : Nat} {e : En} (h : DI l T L M i j) (he : L[j]? = some e) (hd : dropE l T e = true) : DI l T L M i (j + 1) := by
  obtain ⟨hj, _⟩ := List.getElem?_eq_some_iff.1 he
  exact ⟨h.len, by have := h.lt; omega, by omega, by rw [keepE_no he hd]; exact h.front, fun q hq => h.back q (by omega)⟩
theorem DI.yes {M : List En} {i j : Nat} {e : En} (h : DI l T L M i j) (he : L[j]? = some e) (hd : dropE l T e = false) : DI l T L (M.set i e) (i + 1) (j + 1) := by
  obtain ⟨hj, _⟩ := List.getElem?_eq_some_iff.1 he
  have hlt := h.lt
  have hlen := h.len
  refine ⟨by rw [List.length_set]; exact h.len, by omega, by omega, ?_, fun q hq => ?_⟩
  · rw [keepE_yes he hd, ← h.front, List.take_succ_eq_append_getElem (by rw [List.length_set]; omega), List.take_set, List.set_eq_of_length_le (by rw [List.length_take]; omega), List.getElem_set_self]
  · rw [List.getElem?_set_ne (by omega)]
    exact h.back q (by omega)
end
theorem erows_set (M : List En) (i : Nat) (e : En) : erows (M.set i e) = (erows M).set i (erow e) := by unfold erows; rw [List.map_set]
theorem erows_take (M : List En) (i : Nat) : (erows M).take i = erows (M.take i) := by unfold erows; rw [List.map_take]
theorem ecells_erow (e : En) : ecells e = (erow e).toArray := rfl

set_option maxHeartbeats 800000 in
theorem tnam1_any (l : Lay14) (f : Value) (T : Int → List UInt8) (hT : ∀ no, (T no).length = 256) (e : En) (g : Nat) (w : World) (hf : FV w l f T) (hg : Blk w g 44 (vval l f)) :
    Calls Tryz.prog 97 #[.agg (ecells e), .pointer (some ⟨g, 0, none⟩)] w fun e' w' => e' = .returned (.bool (dropE l T e)) ∧ Below w.heap.size w w' := by
  have HIn := Lib.hid (fun w h => vinode_any l f T hT e.ino w h)
  have HF := Lib.hid hf
  have HG := Lib.hid hg
  obtain ⟨X, HX⟩ : ∃ X, Hid (vIno l T e.ino = X) := ⟨_, Lib.hid rfl⟩
  have HXL := Lib.hid (show X.length = 11 by rw [← HX.out]; exact vIno_len _ _ _)
  rw [HX.out] at HIn
  obtain ⟨z, HZ⟩ : ∃ z, Hid (fld X 0 = z) := ⟨_, Lib.hid rfl⟩
  obtain ⟨b, hb⟩ : ∃ b, dropE l T e = b := ⟨_, rfl⟩
  have HD := Lib.hid (show (!(decide (z = 1) || decide (z = 2))) = b by rw [← hb]; unfold dropE isKd; rw [HX.out, HZ.out])
  rw [hb]
  clear hf hg hT HX hb
  go_enter Tryz.func97, Tryz.ntmps97
  go_wp2_with (refine wpList_box_row rfl _ _ rfl _ rfl ?_)
  apply Stop.go; intro w1 Hg1 Hb1
  have c1 : w1.cell? ⟨w.heap.size, 1, none⟩ = some (.int .i64 e.ino) := Hb1.out.cell 1
  have HG1 := Lib.hid (HG.out.ext Hg1.out.1)
  go_wp2_with (refine wpList_load_blk rfl _ _ rfl _ rfl _ _ HG1.out _ Tryz.underlying44 rfl Tryz.viewSize ?_)
  refine (HIn.out _ (HF.out.below Hg1.out.1)).mono ?_; rintro e w2 ⟨rfl, hb2⟩
  have E2 := Lib.hid (bt Hg1.out.1 hb2)
  clear hb2 c1
  have hk : (Instr.field 59 (.agg (icells X)) 0).run Tryz.prog w2 = .ok (.int .i64 z) w2 := by rw [← HZ.out]; exact run_field_kind HXL.out w2
  by_cases h1 : z = 1
  · have e1 : (z != 1) = false := by simpa using h1
    have hb : b = false := by rw [← HD.out, decide_eq_true h1]; rfl
    subst hb
    clear h1
    go_wp2_with (refine wpList_field rfl _ _ _ rfl _ _ rfl hk ?_)
    go_ret
    exact ⟨rfl, E2.out⟩
  · have e1 : (z != 1) = true := by simpa using h1
    by_cases h2 : z = 2
    · have e2 : (z != 2) = false := by simpa using h2
      have hb : b = false := by rw [← HD.out, decide_eq_true h2, Bool.or_true]; rfl
      subst hb
      clear h1 h2
      go_wp2_with (refine wpList_field rfl _ _ _ rfl _ _ rfl hk ?_)
      go_ret
      exact ⟨rfl, E2.out⟩
    · have e2 : (z != 2) = true := by simpa using h2
      have hb : b = true := by rw [← HD.out, decide_eq_false h1, decide_eq_false h2]; rfl
      subst hb
      clear h1 h2
      go_wp2_with (refine wpList_field rfl _ _ _ rfl _ _ rfl hk ?_)
      go_ret
      exact ⟨rfl, E2.out⟩

set_option maxHeartbeats 1600000 in
theorem teidx_any (l : Lay14) (f : Value) (T : Int → List UInt8) (hT : ∀ no, (T no).length = 256) (A : Option Addr) (n cap : Nat) (L : List En) (hn : L.length = n) (hm : n ≤ 4096) (g : Nat) (w : World) (hf : FV w l f T) (hg : Blk w g 44 (vval l f)) (hr : RN w A 2 (erows L)) :
    Calls Tryz.prog 136 #[.slice A n cap, .func (.func 97) #[] #[.pointer (some ⟨g, 0, none⟩)]] w fun e w' => (∃ z : Int, e = .returned (.int .i64 z) ∧ ((z = -1 ∧ ∀ x ∈ L, dropE l T x = false) ∨ ∃ k x, z = (k : Nat) ∧ L[k]? = some x ∧ dropE l T x = true ∧ ∀ q, q < k → ∀ m, L[q]? = some m → dropE l T m = false)) ∧ Below w.heap.size w w' := by
  have Hn := Lib.hid hn
  have HR := Lib.hid hr
  have HG := Lib.hid hg
  have HF := Lib.hid hf
  have HC := Lib.hid (fun (x : En) (w : World) h h' => tnam1_any l f T hT x g w h h')
  clear hn hr hg hf hT
  go_enter Tryz.func136, Tryz.ntmps136
  go_wp2_with fail
  go_loopw [8] (fun z wr => ∃ k : Nat, k ≤ n ∧ z = .int .i64 k ∧ Hid (∀ q, q < k → ∀ m, L[q]? = some m → dropE l T m = false) ∧ Hid (Below w.heap.size w wr)) (fun z _ => n - (intOf z).toNat)
  case atStart => exact ⟨0, Nat.zero_le _, rfl, Lib.hid (fun j hj => by omega), Lib.hid (Below.refl _ _)⟩
  case round =>
    obtain ⟨k, hk, rfl, HNo, E⟩ := hrel
    by_cases hlt : k < n
    · have d1 : decide ((k : Int) < (n : Int)) = true := by simp; omega
      have p0 : (0 : Int) ≤ (k : Int) := by omega
      have p1 : (k : Int) < (n : Int) := by omega
      have hkl : k < L.length := by rw [Hn.out]; exact hlt
      obtain ⟨x, hx⟩ : ∃ x, L[k]? = some x := ⟨_, List.getElem?_eq_getElem hkl⟩
      have h4 := HR.out.below E.out
      obtain ⟨ad, rfl⟩ := h4.adr (k := k) (by rw [erows_len]; exact hkl) (by decide)
      have HRe := Lib.hid (h4.row (erow_at hx) rfl)
      have HNd := Lib.hid hx
      clear h4 hx
      go_wp2_with (refine wpList_load_cells rfl _ _ rfl (ad.add (k * 2)) rfl _ Tryz.underlying56 (erow x) Tryz.entSize HRe.out ?_)
      refine (HC.out x _ (HF.out.below E.out) (HG.out.ext E.out)).mono ?_; rintro e w1 ⟨rfl, hb1⟩
      have E1 := Lib.hid (bt E.out hb1)
      clear hb1 HRe
      cases hd : dropE l T x
      · have HD := Lib.hid hd
        clear hd
        go_wp2_with fail
        go_roundw
        case rel =>
          refine ⟨k + 1, by omega, by go_num, Lib.hid (fun j hj m hm' => ?_), E1⟩
          rcases Nat.lt_or_ge j k with h | h
          · exact HNo.out j h m hm'
          · obtain rfl : j = k := by omega
            rw [HNd.out] at hm'
            injection hm' with hm'
            rw [← hm']
            exact HD.out
        case measure => simp [intOf]; omega
      · have HD := Lib.hid hd
        clear hd
        go_wp2_with fail
        go_ret
        exact ⟨⟨_, rfl, Or.inr ⟨k, x, rfl, HNd.out, HD.out, HNo.out⟩⟩, E1.out⟩
    · obtain rfl : k = n := by omega
      have d1 : decide ((k : Int) < (k : Int)) = false := by simp
      have HA := Lib.hid (show ∀ x ∈ L, dropE l T x = false from fun x hx => by
        obtain ⟨j, hj, rfl⟩ := List.getElem_of_mem hx
        exact HNo.out j (by have := Hn.out; omega) _ (List.getElem?_eq_getElem hj))
      go_wp2_with fail
      go_ret
      exact ⟨⟨_, rfl, Or.inl ⟨rfl, HA.out⟩⟩, E.out⟩

set_option maxHeartbeats 3200000 in
theorem tdel_any (l : Lay14) (f : Value) (T : Int → List UInt8) (hT : ∀ no, (T no).length = 256) (w0 : World) (v : Value) (L : List En) (hm : L.length ≤ 4096) (g : Nat) (hf : FV w0 l f T) (hg : Blk w0 g 44 (vval l f)) (w : World) (h0 : Below w0.heap.size w0 w) (ho : OwnN w w0.heap.size 56 2 v (erows L)) :
    Calls Tryz.prog 95 #[v, .func (.func 97) #[] #[.pointer (some ⟨g, 0, none⟩)]] w fun e w' => ∃ u, e = .returned u ∧ OwnN w' w0.heap.size 56 2 u (erows (keepE l T L)) ∧ Below w0.heap.size w0 w' := by
  have HG := Lib.hid hg
  have HF := Lib.hid hf
  have H0 := Lib.hid h0
  have HO := Lib.hid ho
  have HC := Lib.hid (fun (x : En) (w : World) h h' => tnam1_any l f T hT x g w h h')
  obtain ⟨A, cap, hv, hnc, _, hr⟩ := ho.read
  rw [erows_len] at hv hnc
  have HIx := Lib.hid (teidx_any l f T hT A L.length cap L rfl hm g w (hf.below (h0.mono (Nat.le_refl _))) (hg.ext h0) hr)
  obtain ⟨n, Hn⟩ : ∃ n, Hid (L.length = n) := ⟨_, Lib.hid rfl⟩
  rw [Hn.out] at hv HIx hnc hm
  subst hv
  clear hf hg h0 ho hr hT
  go_enter Tryz.func95, Tryz.ntmps95
  go_wp2_with fail
  refine (HIx.out).mono ?_; rintro e w1 ⟨⟨z, rfl, hz⟩, hb1⟩
  have E1 := Lib.hid (H0.out.trans (hb1.mono H0.out.size))
  have HO1 := Lib.hid (HO.out.ext hb1)
  clear hb1 HIx HO H0
  rcases hz with ⟨rfl, hall⟩ | ⟨i, x, rfl, hx, hd, hbef⟩
  · have HK := Lib.hid (keepE_all hall)
    clear hall
    go_wp2_with fail
    go_ret
    exact ⟨_, rfl, by rw [HK.out]; exact HO1.out, E1.out⟩
  · have HD := Lib.hid (DI.start hx hd hbef)
    have hi : i < n := by rw [← Hn.out]; exact (List.getElem?_eq_some_iff.1 hx).1
    clear hx hd hbef
    have e1 : ((i : Int) == -1) = false := by
      rw [beq_eq_false_iff_ne]
      omega
    have hn4 := hm
    obtain ⟨gl, hgl⟩ : ∃ gl, A = some ⟨gl, 0, none⟩ := by
      obtain ⟨_, _, ⟨h, _⟩ | ⟨gl, c', cur, hv, _⟩⟩ := HO1.out
      · injection h with _ h2 _
        omega
      · injection hv with h1 _ _
        exact ⟨gl, h1⟩
    obtain ⟨ad, had⟩ : ∃ ad : Addr, ad = ⟨gl, 0, none⟩ := ⟨_, rfl⟩
    subst hgl
    have HAd := Lib.hid had
    have HOw := Lib.hid HO1.out
    have Hgl := Lib.hid (show w0.heap.size ≤ gl from (HO1.out.lt gl rfl).1)
    rw [← had]
    clear HO1 had
    go_wp2_with fail
    go_loopw [5, 6] (fun a b wr => ∃ (i j : Nat) (M : List En), a = .int .i64 i ∧ b = .int .i64 j ∧ j ≤ n ∧ Hid (DI l T L M i j) ∧ Hid (OwnN wr w0.heap.size 56 2 (.slice (some ⟨gl, 0, none⟩) n cap) (erows M)) ∧ Hid (Below w0.heap.size w0 wr)) (fun _ z _ => n - (intOf z).toNat)
    case atStart => exact ⟨i, i + 1, L, rfl, by go_num, by omega, HD, HOw, E1⟩
    case round =>
      clear HD HOw E1
      obtain ⟨i, j, M, rfl, rfl, hj, HD, HO, E⟩ := hrel
      have hij := HD.out.lt
      by_cases hlt : j < n
      · have d1 : decide ((j : Int) < (n : Int)) = true := by simp; omega
        have p0 : (0 : Int) ≤ (j : Int) := by omega
        have p1 : (j : Int) < (n : Int) := by omega
        have p2 : (0 : Int) ≤ (i : Int) := by omega
        have p3 : (i : Int) < (n : Int) := by omega
        obtain ⟨y, hy⟩ : ∃ y, L[j]? = some y := ⟨_, List.getElem?_eq_getElem (by rw [Hn.out]; exact hlt)⟩
        have HY := Lib.hid hy
        have hMj : M[j]? = some y := by rw [HD.out.back j (Nat.le_refl _)]; exact hy
        have hMi : i < M.length := by rw [HD.out.len, Hn.out]; omega
        have HMi := Lib.hid (show i < (erows M).length by rw [erows_len]; exact hMi)
        have hrn := HO.out.rn
        rw [← HAd.out] at hrn
        have HRe := Lib.hid (hrn.row (erow_at hMj) rfl)
        clear hy hrn hMj hMi
        go_wp2_with (first | refine wpList_load_cells rfl _ _ rfl (ad.add (j * 2)) rfl _ Tryz.underlying56 (erow y) Tryz.entSize HRe.out ?_ | refine wpList_alloc_row rfl _ rfl _ Tryz.entZero25 ?_)
        apply Stop.go; intro w3 Hg3 Hb3
        go_wp2_with (refine wpList_store_arr rfl _ _ _ rfl _ (ecells y) rfl rfl _ _ Hb3.out Tryz.entSize rfl (by simp [ecells, Value.oneCell']) ?_)
        apply Stop.go; intro w4 Ho4 Hb4
        have D4 := Lib.hid (bonly Hg3.out.1 Ho4.out (Nat.le_refl _))
        have E4 := Lib.hid (E.out.trans (D4.out.mono E.out.size))
        have HO4 := Lib.hid (HO.out.ext D4.out)
        clear Hg3 Hb3 Ho4 D4 HRe HO E
        generalize wr.heap.size = ge at *
        go_wp2_with (refine wpList_load_blk rfl _ _ rfl _ rfl _ _ Hb4.out _ Tryz.underlying56 rfl Tryz.entSize ?_)
        refine (HC.out y _ (HF.out.below E4.out) (HG.out.ext E4.out)).mono ?_; rintro e w5 ⟨rfl, hb5⟩
        have E5 := Lib.hid (E4.out.trans (hb5.mono E4.out.size))
        have HO5 := Lib.hid (HO4.out.ext hb5)
        have Hb5 := Lib.hid (Hb4.out.ext hb5)
        clear hb5 Hb4 HO4 E4
        cases hd : dropE l T y
        · have HD2 := Lib.hid (HD.out.yes HY.out hd)
          clear hd HD
          go_wp2_with (first | refine wpList_load_blk rfl _ _ rfl _ rfl _ _ Hb5.out _ Tryz.underlying56 rfl Tryz.entSize ?_ | refine wpList_store_row rfl _ _ _ rfl 2 Tryz.entSize gl i (ad.add (i * 2)) rfl (by rw [HAd.out, addr_add0]) (erow y) rfl _ _ _ _ _ HO5.out HMi.out rfl (erows_one (l := [y]) (erow y) (by simp [erows])).2 ?_)
          apply Stop.go; intro w6 Ho6 HO6
          have E6 := Lib.hid (E5.out.trans (Ho6.out.below Hgl.out))
          rw [← erows_set] at HO6
          clear Ho6 HO5 Hb5 E5
          go_wp2_with fail
          go_roundw
          case rel => exact ⟨i + 1, j + 1, M.set i y, by go_num, by go_num, by omega, HD2, HO6, E6⟩
          case measure => simp [intOf]; omega
        · have HD2 := Lib.hid (HD.out.no HY.out hd)
          clear hd HD
          go_wp2_with fail
          go_roundw
          case rel => exact ⟨i, j + 1, M, rfl, by go_num, by omega, HD2, HO5, E5⟩
          case measure => simp [intOf]; omega
      · obtain rfl : j = n := by omega
        have d1 : decide ((j : Int) < (j : Int)) = false := by simp
        have HK := Lib.hid (show M.take i = keepE l T L by rw [HD.out.front, ← Hn.out, List.take_length])
        have HMl := Lib.hid (show (erows M).length = j by rw [erows_len, HD.out.len, Hn.out])
        clear HD
        go_wp2_with (first | refine wpList_slice_offN rfl _ _ _ rfl _ Tryz.underlying27 2 Tryz.entSize ad j cap rfl _ _ rfl i rfl hij hnc (j - i) (cap - i) (by omega) (by omega) ?_ | refine wpList_clear_rows rfl _ _ _ rfl Tryz.underlying27 2 _ _ Tryz.entInfo25 rfl (by simp [Value.cells, Value.oneCell']) gl i (j - i) (cap - i) (ad.add (i * 2)) rfl (by rw [HAd.out, addr_add0]) _ _ _ _ HO.out HMl.out (by omega) ?_)
        apply Stop.go; intro w6 Ho6 HO6
        have E6 := Lib.hid (E.out.trans (Ho6.out.below Hgl.out))
        rw [erows_take, HK.out] at HO6
        go_wp2_with (refine wpList_slice_uptoN rfl _ _ _ rfl _ Tryz.underlying27 2 Tryz.entSize ad j cap rfl _ _ rfl i rfl (by omega) (by omega) ?_)
        go_ret
        exact ⟨_, rfl, by rw [HAd.out]; exact HO6.out, E6.out⟩

set_option maxHeartbeats 1600000 in
theorem tnames_any (l : Lay14) (f : Value) (T : Int → List UInt8) (hT : ∀ no, (T no).length = 256) (X : List Int) (hX : X.length = 11) (w : World) (hf : FV w l f T) :
    Calls Tryz.prog 64 #[.agg (vval l f), .agg (icells X)] w (RetN w 56 2 (erows (namP l T X))) := by
  have HXL := Lib.hid hX
  have HF := Lib.hid hf
  have HLi := Lib.hid (fun w h => dlist_any l f T hT X hX w h)
  have HDe := Lib.hid (fun w0 v g hf hg w h0 ho => tdel_any l f T hT w0 v (srtE (lisD l T X)) (by have := srtE_len (lisD_apart (l := l) (T := T) (X := X)); have := lisD_len (l := l) (T := T) (X := X); omega) g hf hg w h0 ho)
  rw [show keepE l T (srtE (lisD l T X)) = namP l T X from rfl] at HDe
  have hmf : ∀ (fn : Fn) (first cap : Array Value) (w : World), (Instr.makeFunc fn first cap).run Tryz.prog w = .ok (.func fn first cap) w := fun _ _ _ _ => rfl
  clear hf hT hX
  go_enter Tryz.func64, Tryz.ntmps64
  go_wp2_with (refine wpList_box_row rfl _ _ rfl _ rfl ?_)
  apply Stop.go; intro w1 Hg1 Hb1
  go_wp2_with (refine wpList_box_row rfl _ _ rfl _ rfl ?_)
  apply Stop.go; intro w2 Hg2 Hb2
  have HV2 := Lib.hid (Hb1.out.ext Hg2.out.1)
  have E2 := Lib.hid (bt Hg1.out.1 Hg2.out.1)
  have HF2 := Lib.hid (HF.out.below E2.out)
  generalize w1.heap.size = g1 at *
  clear Hg1 Hb1 Hg2
  go_wp2_with (first | refine wpList_load_blk rfl _ _ rfl _ rfl _ _ HV2.out _ Tryz.underlying44 rfl Tryz.viewSize ?_ | refine wpList_load_blk rfl _ _ rfl _ rfl _ _ Hb2.out _ Tryz.underlying59 rfl (Tryz.inoFits HXL.out) ?_)
  refine (HLi.out _ HF2.out).mono ?_; rintro e w3 ⟨v, rfl, hv, hb3⟩
  have HV := Lib.hid hv
  have HB3 := Lib.hid hb3
  clear hv hb3
  go_wp2_with fail
  refine (HDe.out w2 v _ HF2.out HV2.out w3 HB3.out HV.out).mono ?_; rintro e w4 ⟨u, rfl, hu, hb4⟩
  have HU := Lib.hid (hu.low E2.out.size)
  have E4 := Lib.hid (E2.out.trans (hb4.mono E2.out.size))
  clear hu hb4
  go_wp2_with fail
  go_ret
  exact ⟨_, rfl, HU.out, E4.out⟩

end Go.Proofs.YtkakihbfhmiabaaGreat
