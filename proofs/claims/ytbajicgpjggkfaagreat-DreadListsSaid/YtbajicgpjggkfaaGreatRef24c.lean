/-
  Contracts of the document's List, SameEntries.
-/
import Derived.Test.YtbajicgpjggkfaaGreatRef24b
import Derived.Test.YtbajicgpjggkfaaGreatRef03l
import Derived.Test.YtbajicgpjggkfaaGreatGrR
namespace Go.Proofs.YtbajicgpjggkfaaGreat
open Go.RowKit
set_option maxRecDepth 10000

theorem Tryz.entInfo24c : (Tryz.prog.info? 67).map (fun i => (i.zero, i.size, i.bytes)) = some (some (.agg #[.string ⟨#[]⟩, .int .i64 0]), 2, 24) := by kernel_rfl
/-- What the document's answer has told behind i names and k places. -/
def selN (E : List En) (s : ByteArray) : List En := E.filter fun e => decide (e.name = s)
def srtP (E : List En) (S : List ByteArray) (i k : Nat) (s : ByteArray) : List En := (S.take i).flatMap (selN E) ++ selN (E.take k) s
section
variable {E : List En} {S : List ByteArray}
theorem srtP_zero (i : Nat) (s : ByteArray) : srtP E S i 0 s = (S.take i).flatMap (selN E) := by unfold srtP; rw [List.take_zero]; exact List.append_nil _
theorem srtP_end {i : Nat} (hi : i < S.length) : srtP E S i E.length S[i] = (S.take (i + 1)).flatMap (selN E) := by
  unfold srtP
  rw [List.take_length, List.take_succ_eq_append_getElem hi, List.flatMap_append, List.flatMap_cons, List.flatMap_nil, List.append_nil]
theorem srtP_yes {i k : Nat} {s : ByteArray} (hk : k < E.length) (h : E[k].name = s) : srtP E S i (k + 1) s = srtP E S i k s ++ [E[k]] := by
  unfold srtP selN
  rw [List.take_succ_eq_append_getElem hk, List.filter_append, List.append_assoc]
  simp [h]
theorem srtP_no {i k : Nat} {s : ByteArray} (hk : k < E.length) (h : E[k].name ≠ s) : srtP E S i (k + 1) s = srtP E S i k s := by
  unfold srtP selN
  rw [List.take_succ_eq_append_getElem hk, List.filter_append]
  simp [h]
theorem selN_len (E : List En) (s : ByteArray) : (selN E s).length ≤ E.length := List.length_filter_le _ _
theorem srtP_len (hS : S.length ≤ 224) (hE : E.length ≤ 224) (i k : Nat) (s : ByteArray) : (srtP E S i k s).length ≤ 50400 := by
  have h1 : ∀ T : List ByteArray, (T.flatMap (selN E)).length ≤ 224 * T.length := fun T => by
    induction T with
    | nil => simp
    | cons x T ih =>
      rw [List.flatMap_cons, List.length_append, List.length_cons]
      have := selN_len E x
      omega
  have h2 := h1 (S.take i)
  have h3 := selN_len (E.take k) s
  rw [List.length_take] at h2 h3
  unfold srtP
  rw [List.length_append]
  omega
end
theorem erows_snoc (l : List En) (e : En) : erows (l ++ [e]) = erows l ++ [(ecells e).toList] := by unfold erows; rw [List.map_append]; rfl
theorem sel_lis (f : List Int × En → Bool) (P : List (List Int × En)) : (selE f false P).map (·.2) = lisE f P := by
  unfold selE lisE
  congr 1
  refine List.filter_congr fun q _ => ?_
  cases f q <;> rfl
theorem nms_lis (f : List Int × En → Bool) (P : List (List Int × En)) : nmsE f false P = (lisE f P).map (·.name) := by
  rw [← sel_lis]
  unfold nmsE
  rw [List.map_map]
  rfl
theorem pls_lis_len (f : List Int × En → Bool) (P : List (List Int × En)) : (plsE f false P).length = (lisE f P).length := by
  rw [← sel_lis]
  unfold plsE
  rw [List.length_map, List.length_map]
theorem pls_ino {l : Lay14} {T : Int → List UInt8} {X : List Int} {f : List Int × En → Bool} {k : Nat} (hk : k < (lisE f (entA l T X)).length) : ∃ a b, (plsE f false (entA l T X))[k]? = some [a, b, (lisE f (entA l T X))[k].ino] := by
  have hk' : k < (selE f false (entA l T X)).length := by rw [← sel_lis, List.length_map] at hk; exact hk
  have hm : (selE f false (entA l T X))[k] ∈ entA l T X := (List.mem_filter.1 (List.getElem_mem hk')).1
  obtain ⟨no, j, _, _, _, hp⟩ := entsD_in.1 hm
  refine ⟨no, (j : Int), ?_⟩
  have e1 : (lisE f (entA l T X))[k] = (selE f false (entA l T X))[k].2 := by simp only [← sel_lis, List.getElem_map]
  rw [e1]
  unfold plsE
  rw [List.getElem?_map, List.getElem?_eq_getElem hk', Option.map_some, hp]
theorem lis_size {l : Lay14} {T : Int → List UInt8} {X : List Int} {f : List Int × En → Bool} {e : En} (h : e ∈ lisE f (entA l T X)) : e.name.size ≤ maxLen := by
  unfold lisE at h
  rw [List.mem_map] at h
  obtain ⟨q, hq, rfl⟩ := h
  obtain ⟨_, _, _, _, he, _⟩ := entsD_in.1 (List.mem_filter.1 hq).1
  exact entS_size he
theorem neq_ent24 (b : Int) (s : ByteArray) (w : World) : (binOp .neq 67 (.agg #[.string s, .int .i64 b]) (.agg #[.string s, .int .i64 b])).run Tryz.prog w = .ok (.bool false) w := by
  go_simp
theorem svals_at {l : List ByteArray} {k : Nat} (hk : k < (svals l).length) : (svals l)[k] = .string (l[k]'(by simpa [svals] using hk)) := by simp [svals]
theorem OwnC.str_ {w : World} {B : Nat} {e : TypeId} {A : Option Addr} {n c : Nat} {l : List ByteArray} (h : OwnC w B e (.slice A n c) (svals l)) {k : Nat} (hk : k < l.length) : ∃ ad, A = some ad ∧ w.cell? (ad.add k) = some (.string l[k]) := by
  obtain ⟨A', c', hv, _, _, hr⟩ := h.read
  injection hv with h1 _ _
  subst h1
  obtain ⟨ad, e, hc⟩ := hr k (by simpa [svals] using hk)
  exact ⟨ad, e, by rw [hc, svals_at]⟩

set_option maxHeartbeats 1600000 in
theorem rsame24_any (A A' : Option Addr) (n c c' : Nat) (M : List En) (hn : M.length = n) (hm : n ≤ 4096) (w : World) (hr : RN w A 2 (erows M)) (hr' : RN w A' 2 (erows M)) :
    Calls Tryz.prog 18 #[.slice A n c, .slice A' n c'] w fun e w' => e = .returned (.bool true) ∧ Below w.heap.size w w' := by
  have Hn := Lib.hid hn
  have Hr := Lib.hid hr
  have Hr' := Lib.hid hr'
  clear hn hr hr'
  go_enter Tryz.func18, Tryz.ntmps18
  go_wp2_with fail
  go_loopw [5] (fun z wr => ∃ k : Nat, k ≤ n ∧ z = .int .i64 k ∧ Hid (Below w.heap.size w wr)) (fun z _ => n - (intOf z).toNat)
  case atStart => exact ⟨0, Nat.zero_le _, rfl, Lib.hid (Below.refl _ _)⟩
  case round =>
    obtain ⟨k, hk, rfl, E⟩ := hrel
    by_cases hlt : k < n
    · have hkl : k < M.length := by rw [Hn.out]; exact hlt
      have d1 : decide ((k : Int) < (n : Int)) = true := by simp; omega
      have p0 : (0 : Int) ≤ (k : Int) := by omega
      have p1 : (k : Int) < (n : Int) := by omega
      have h1 := Hr.out.below E.out
      have h2 := Hr'.out.below E.out
      obtain ⟨ad, rfl⟩ := h1.adr (k := k) (by rw [erows_len]; exact hkl) (by decide)
      obtain ⟨ad', rfl⟩ := h2.adr (k := k) (by rw [erows_len]; exact hkl) (by decide)
      obtain ⟨x, hx⟩ : ∃ x, M[k]? = some x := ⟨_, List.getElem?_eq_getElem hkl⟩
      have HG := Lib.hid (erow_at hx)
      have H1 := Lib.hid h1
      have H2 := Lib.hid h2
      clear h1 h2 hx hkl
      go_wp2_with fail
      refine WH.start (S := fun w' : World => RN w' (some ad) 2 (erows M) ∧ RN w' (some ad') 2 (erows M)) [false, false, false, false, false, false, false, false, false] 9 rfl rfl (by kernel_rfl) ⟨H1.out.below (bdrew _ 1), H2.out.below (bdrew _ 1)⟩ (fun hSn => ?_); obtain ⟨wS, hwS⟩ : ∃ x, (wr).drew = x := ⟨_, rfl⟩; have HE := Lib.hid (show Below (wr).heap.size (wr) wS from hwS ▸ bdrew wr 1); rw [hwS] at hSn ⊢; clear hwS
      refine WH.tk 0 ?_; simp only [setL]
      refine WH.tk 1 ?_; simp only [setL]
      refine WH.tk 2 ?_; simp only [setL]
      refine WH.tv 3 rfl (fun w' hSw => exec_load_cells _ _ rfl (ad.add (k * 2)) rfl _ Tryz.underlying67 [.string x.name, .int .i64 x.ino] Tryz.entSize (hSw.1.row HG.out rfl)) ?_; simp only [setL]
      refine WH.tk 4 ?_; simp only [setL]
      refine WH.tk 5 ?_; simp only [setL]
      refine WH.tk 6 ?_; simp only [setL]
      refine WH.tv 7 rfl (fun w' hSw => exec_load_cells _ _ rfl (ad'.add (k * 2)) rfl _ Tryz.underlying67 [.string x.name, .int .i64 x.ino] Tryz.entSize (hSw.2.row HG.out rfl)) ?_; simp only [setL]
      refine WH.tv 8 rfl (fun w' hSw => exec_eql_agg _ _ _ _ _ rfl (by kernel_rfl) _ _ rfl rfl _ (neq_ent24 x.ino x.name _)) ?_; simp only [setL]
      refine WH.done (by kernel_rfl) ?_
      have Ek := Lib.hid (bt E.out HE.out)
      clear hSn HE H1 H2 E
      go_wp2_with fail
      go_roundw
      case rel => exact ⟨k + 1, by omega, by go_num, Ek⟩
      case measure => simp [intOf]; omega
    · obtain rfl : k = n := by omega
      have d1 : decide ((k : Int) < (k : Int)) = false := by simp
      go_wp2_with fail
      go_ret
      exact ⟨rfl, E.out⟩

set_option maxHeartbeats 12800000 in
theorem rlist24_any (A : Option Addr) (n cap : Nat) (L : List (List UInt8)) (hn : L.length = n) (hL : Bks L) (hm : n ≤ maxLen) (l : Lay14) (hly : layW L = some l) (X : List Int) (hX : X.length = 11) (hXi : ∀ z ∈ X, z < 9223372036854775808) (w : World) (hr : RK w A L) :
    Calls Tryz.prog 15 #[.slice A n cap, .agg l.val, .agg (icells X)] w (RetN w 67 2 (erows (srtE (lisD l (bkV L) X)))) := by
  have Hr := Lib.hid hr
  have HXL := Lib.hid hX
  have HEn := Lib.hid (fun w h => rents_any A n cap L hn hL hm l hly X hX hXi false w h)
  have hEl := lisD_len (l := l) (T := bkV L) (X := X)
  have hln : (lisD l (bkV L) X).map (·.name) = nmsE (strB l (bkV L) X) false (entA l (bkV L) X) := (nms_lis _ _).symm
  have hSz : ∀ e ∈ lisD l (bkV L) X, e.name.size ≤ maxLen := fun e h => lis_size h
  have HIn := Lib.hid (fun k (hk : k < (lisD l (bkV L) X).length) => pls_ino (l := l) (T := bkV L) (X := X) (f := strB l (bkV L) X) hk)
  have hpl : (plsE (strB l (bkV L) X) false (entA l (bkV L) X)).length = (lisD l (bkV L) X).length := pls_lis_len _ _
  rw [← hln] at HEn
  generalize plsE (strB l (bkV L) X) false (entA l (bkV L) X) = PS at *
  have hIn : ∀ k (hk : k < (lisD l (bkV L) X).length), ∃ a b, PS[k]? = some [a, b, (lisD l (bkV L) X)[k].ino] := HIn.out
  clear HIn hln
  generalize lisD l (bkV L) X = E at *
  obtain ⟨N, HN⟩ : ∃ N, Hid (E.length = N) := ⟨_, Lib.hid rfl⟩
  obtain ⟨S, HS⟩ : ∃ S, Hid (sortS (E.map (·.name)) = S) := ⟨_, Lib.hid rfl⟩
  have hNl : (E.map (·.name)).length = N := by rw [List.length_map]; exact HN.out
  have HSl := Lib.hid (show S.length ≤ 224 by rw [← HS.out]; exact Nat.le_trans (sortS_len _) (by rw [hNl, ← HN.out]; exact hEl))
  have HNl := Lib.hid hNl
  have HSo := Lib.hid (fun A' c w h => rsort_any A' N c (E.map (·.name)) hNl (by have := HN.out; omega) (fun x hx => by
    rw [List.mem_map] at hx
    obtain ⟨e, he, rfl⟩ := hx
    exact hSz e he) w h)
  have HEl := Lib.hid (show E.length ≤ 224 from hEl)
  have HPl := Lib.hid (show PS.length = N by rw [hpl]; exact HN.out)
  have HIn := Lib.hid hIn
  have HSr := Lib.hid (show (S.take S.length).flatMap (selN E) = srtE E by rw [List.take_length, ← HS.out]; rfl)
  rw [HS.out] at HSo
  rw [← HSr.out]
  have hN2 : N ≤ 224 := by have := HN.out; omega
  clear hr hX hn hL hm hly hXi hEl hSz hpl hIn hNl HS HSr
  obtain ⟨ns, Hns⟩ : ∃ ns, Hid (S.length = ns) := ⟨_, Lib.hid rfl⟩
  have hns2 : ns ≤ 224 := by have := Hns.out; have := HSl.out; omega
  rw [Hns.out]
  go_enter Tryz.func15, Tryz.ntmps15
  go_wp2_with (refine wpList_box_row rfl _ _ rfl _ rfl ?_)
  apply Stop.go; intro w1 Hg1 Hb1
  go_wp2_with (refine wpList_box_row rfl _ _ rfl _ rfl ?_)
  apply Stop.go; intro w2 Hg2 Hb2
  have HV2 := Lib.hid (Hb1.out.ext Hg2.out.1)
  have E2 := Lib.hid (bt Hg1.out.1 Hg2.out.1)
  generalize w1.heap.size = g1 at *
  clear Hg1 Hb1 Hg2
  go_wp2_with (first | refine wpList_load_blk rfl _ _ rfl _ rfl _ _ HV2.out _ Tryz.underlying26 rfl Tryz.laySize ?_ | refine wpList_load_blk rfl _ _ rfl _ rfl _ _ Hb2.out _ Tryz.underlying39 rfl (Tryz.inoFits HXL.out) ?_)
  refine (HEn.out _ (Hr.out.below E2.out)).mono ?_; rintro e w3 ⟨vp, vn, rfl, hvp, hvn, hof, hb3⟩
  have E3 := Lib.hid (bt E2.out hb3)
  have HP3 := Lib.hid (hvp.low E2.out.size)
  have HN3 := Lib.hid (hvn.low E2.out.size)
  obtain ⟨Ap, cp, rfl, _, _, _⟩ := hvp.read
  obtain ⟨An, cn, rfl, _, _, hrn⟩ := hvn.read
  have e1 : (irows PS).length = N := by rw [irows_len]; exact HPl.out
  have e2 : (svals (E.map (·.name))).length = N := by unfold svals; rw [List.length_map]; exact HNl.out
  rw [e1] at HP3 ⊢
  rw [e2] at HN3 ⊢
  clear hvp hvn hof hb3 HV2 Hb2 E2 HEn e1 e2
  go_wp2_with fail
  refine (HSo.out An cn _ hrn).mono ?_; rintro e w4 ⟨vs, rfl, hvs, hb4⟩
  have E4 := Lib.hid (bt E3.out hb4)
  have HP4 := Lib.hid (SureN.mk (F := Has (.slice none 0 0)) (HP3.out.ext hb4) (fun k _ h => by simp [Has, Value.ownBlock] at h))
  have HN4 := Lib.hid (SureC.mk (F := Has (.slice none 0 0)) (HN3.out.ext hb4) (fun k _ h => by simp [Has, Value.ownBlock] at h))
  have HS4 := Lib.hid (SureC.mk (F := Has (.slice none 0 0)) (hvs.low E3.out.size) (fun k _ h => by simp [Has, Value.ownBlock] at h))
  obtain ⟨As, cs, rfl, _, _, _⟩ := hvs.read
  have e2 : (svals S).length = ns := by unfold svals; rw [List.length_map]; exact Hns.out
  rw [e2] at HS4 ⊢
  clear hvs hb4 hrn HP3 HN3 E3 HSo e2
  go_wp2_with fail
  go_loopw [7, 11] (fun v z wr => ∃ i : Nat, i ≤ ns ∧ z = .int .i64 i ∧ Hid (Below w.heap.size w wr) ∧ Hid (OwnN wr w.heap.size 67 2 v (erows ((S.take i).flatMap (selN E)))) ∧
    Hid (SureN (Has v) wr w.heap.size 45 3 (.slice Ap N cp) (irows PS)) ∧ Hid (SureC (Has v) wr w.heap.size 9 (.slice An N cn) (svals (E.map (·.name)))) ∧ Hid (SureC (Has v) wr w.heap.size 9 (.slice As ns cs) (svals S))) (fun _ z _ => ns - (intOf z).toNat)
  case atStart => exact ⟨0, Nat.zero_le _, rfl, E4, Lib.hid (by rw [List.take_zero, List.flatMap_nil]; exact OwnN.nil_ _ _ _ _), HP4, HN4, HS4⟩
  case round =>
    obtain ⟨i, hi, rfl, Ew, HO, HP, HNm, HSs⟩ := hrel
    by_cases hlt : i < ns
    · have hil : i < S.length := by rw [Hns.out]; exact hlt
      have d1 : decide ((i : Int) < (ns : Int)) = true := by simp; omega
      have p0 : (0 : Int) ≤ (i : Int) := by omega
      have p1 : (i : Int) < (ns : Int) := by omega
      obtain ⟨ads, rfl, hcs⟩ := HSs.out.own.str_ hil
      have HCs := Lib.hid (fun (wr : World) (h : OwnC wr w.heap.size 9 (.slice (some ads) ns cs) (svals S)) => show wr.cell? (ads.add i) = some (.string S[i]) by
        obtain ⟨ad', e, hc⟩ := h.str_ hil
        injection e with e
        subst e
        exact hc)
      have HEnd := Lib.hid (srtP_end (E := E) hil)
      have HYes := Lib.hid (fun k (hk : k < E.length) (h : E[k].name = S[i]) => show erows (srtP E S i (k + 1) S[i]) = erows (srtP E S i k S[i]) ++ [(ecells E[k]).toList] by rw [srtP_yes hk h, erows_snoc])
      have HNo := Lib.hid (fun k (hk : k < E.length) (h : E[k].name ≠ S[i]) => show erows (srtP E S i (k + 1) S[i]) = erows (srtP E S i k S[i]) by rw [srtP_no hk h])
      have HLn := Lib.hid (fun k => show (erows (srtP E S i k S[i])).length ≤ 50400 by rw [erows_len]; exact srtP_len HSl.out HEl.out _ _ _)
      have HZ := Lib.hid (srtP_zero (E := E) (S := S) i S[i])
      obtain ⟨s, hs⟩ : ∃ s, S[i] = s := ⟨_, rfl⟩
      rw [hs] at HCs HEnd HYes HNo HLn HZ
      rw [HN.out] at HEnd
      obtain ⟨R, hR⟩ : ∃ R : Nat → List (List Value), ∀ k, erows (srtP E S i k s) = R k := ⟨_, fun _ => rfl⟩
      simp only [hR] at HYes HNo HLn
      have HEnd := Lib.hid (show R N = erows ((S.take (i + 1)).flatMap (selN E)) by rw [← hR, HEnd.out])
      have HZ := Lib.hid (show R 0 = erows ((S.take i).flatMap (selN E)) by rw [← hR, HZ.out])
      rw [← HZ.out] at HO
      clear hs hcs hil hR
      go_wp2_with fail
      go_loopw [7, 12] (fun v z wi => ∃ k : Nat, k ≤ N ∧ z = .int .i64 k ∧ Hid (Below w.heap.size w wi) ∧ Hid (OwnN wi w.heap.size 67 2 v (R k)) ∧
        Hid (SureN (Has v) wi w.heap.size 45 3 (.slice Ap N cp) (irows PS)) ∧ Hid (SureC (Has v) wi w.heap.size 9 (.slice An N cn) (svals (E.map (·.name)))) ∧ Hid (SureC (Has v) wi w.heap.size 9 (.slice (some ads) ns cs) (svals S))) (fun _ z _ => N - (intOf z).toNat)
      case atStart => exact ⟨0, Nat.zero_le _, rfl, Ew, HO, HP, HNm, HSs⟩
      case round =>
        obtain ⟨k, hk, rfl, Ew, HO, HP, HNm, HSs⟩ := hrel
        by_cases hlk : k < N
        · have hkl : k < E.length := by rw [HN.out]; exact hlk
          have d2 : decide ((k : Int) < (N : Int)) = true := by simp; omega
          have q0 : (0 : Int) ≤ (k : Int) := by omega
          have q1 : (k : Int) < (N : Int) := by omega
          have hkn : k < (E.map (·.name)).length := by rw [List.length_map]; exact hkl
          obtain ⟨adn, rfl, hcn⟩ := HNm.out.own.str_ hkn
          have hrp := HP.out.own.rn
          obtain ⟨adp, rfl⟩ := hrp.adr (k := k) (by rw [irows_len, HPl.out]; exact hlk) (by decide)
          obtain ⟨pa, pb, hpk⟩ := HIn.out k hkl
          have hen : (E.map (·.name))[k] = E[k].name := by rw [List.getElem_map]
          have HYk := Lib.hid (HYes.out k hkl)
          have HNk := Lib.hid (HNo.out k hkl)
          obtain ⟨x, hx⟩ : ∃ x, E[k] = x := ⟨_, rfl⟩
          rw [hx] at hen hpk HYk HNk
          have HCn := Lib.hid (fun (wr : World) (h : OwnC wr w.heap.size 9 (.slice (some adn) N cn) (svals (E.map (·.name)))) => show wr.cell? (adn.add k) = some (.string x.name) by
            obtain ⟨ad', e, hc⟩ := h.str_ hkn
            injection e with e
            subst e
            rw [hc, hen])
          have HCp := Lib.hid (fun (wr : World) (h : OwnN wr w.heap.size 45 3 (.slice (some adp) N cp) (irows PS)) => show wr.cell? ((adp.add (k * 3)).add 2) = some (.int .i64 x.ino) from h.rn.row (irows_at hpk) rfl 2 _ rfl)
          have ck := HCn.out _ HNm.out.own
          have cs' := HCs.out _ HSs.out.own
          have HRl := Lib.hid (HLn.out k)
          obtain ⟨eq, heq⟩ : ∃ r, (x.name.toList == s.toList) = r := ⟨_, rfl⟩
          clear hcn hrp hpk hen hx hkn hkl
          go_wp2_with fail
          go_quiet (fail)
          obtain ⟨wq, hwq⟩ : ∃ x, wr.drewN nq = x := ⟨_, rfl⟩
          have Dq := bdrew wr nq
          rw [hwq] at Dq ⊢
          have HOq := Lib.hid (HO.out.ext Dq)
          have HPq := Lib.hid (HP.out.ext Dq)
          have HNq := Lib.hid (HNm.out.ext Dq)
          have HSq := Lib.hid (HSs.out.ext Dq)
          have Eq := Lib.hid (bt Ew.out Dq)
          clear hwq Dq ck cs' HO HP HNm HSs Ew
          cases eq
          · have HNz := Lib.hid (HNk.out (by intro h; rw [← h] at heq; simp at heq))
            clear HNk HYk heq
            go_wp2_with fail
            go_roundw
            case rel => exact ⟨k + 1, by omega, by go_num, Eq, Lib.hid (by rw [HNz.out]; exact HOq.out), HPq, HNq, HSq⟩
            case measure => simp [intOf]; omega
          · have HYz := Lib.hid (HYk.out (by rw [text_eq] at heq; exact of_decide_eq_true heq))
            clear HNk HYk heq
            go_wp2_with fail
            refine WH.start (S := fun w' : World => OwnC w' w.heap.size 9 (.slice (some adn) N cn) (svals (E.map fun e : En => e.name)) ∧ OwnN w' w.heap.size 45 3 (.slice (some adp) N cp) (irows PS)) [false, false, false, false, false, false, false, false, false, false, false, false, false, false] 14 rfl rfl (by kernel_rfl) ⟨HNq.out.own.ext (bdrew _ 1), HPq.out.own.ext (bdrew _ 1)⟩ (fun hSn => ?_); obtain ⟨wS, hwS⟩ : ∃ x, (wq).drew = x := ⟨_, rfl⟩; have HE := Lib.hid (show Below (wq).heap.size (wq) wS from hwS ▸ bdrew wq 1); rw [hwS] at hSn ⊢; clear hwS
            refine WH.tk 0 ?_; simp only [setL]
            refine WH.tk 1 ?_; simp only [setL]
            refine WH.tk 2 ?_; simp only [setL]
            refine WH.tk 3 ?_; simp only [setL]
            refine WH.tv 4 rfl (fun w' hSw => exec_load_cell _ _ rfl _ rfl _ (HCn.out _ hSw.1) _ Tryz.underlying9 rfl) ?_; simp only [setL]
            refine WH.tk 5 ?_; simp only [setL]
            refine WH.tk 6 ?_; simp only [setL]
            refine WH.tk 7 ?_; simp only [setL]
            refine WH.tk 8 ?_; simp only [setL]
            refine WH.tv 9 rfl (fun w' hSw => exec_load_cell _ _ rfl _ rfl _ (HCp.out _ hSw.2) _ Tryz.underlying3 rfl) ?_; simp only [setL]
            refine WH.tk 10 ?_; simp only [setL]
            refine WH.only 11 _ rfl (by kernel_rfl) rfl (fun K hK => ?_)
            refine ow_build_row _ _ _ rfl Tryz.underlying52 2 _ _ Tryz.entInfo24c (by decide) (by decide) (ecells x) rfl rfl ?_
            apply Stop.go; intro wT HgT HbT
            have HT := Lib.hid (bt HE.out HgT.out.1)
            have HOT := Lib.hid (HOq.out.ext HT.out)
            have HPT := Lib.hid (HPq.out.ext HT.out)
            have HNT := Lib.hid (HNq.out.ext HT.out)
            have HST := Lib.hid (HSq.out.ext HT.out)
            have ET := Lib.hid (bt Eq.out HT.out)
            have ZT := Lib.hid ET.out.size
            have hNT := And.intro HNT.out.own HPT.out.own
            clear HgT HE HT HOq HPq HNq HSq Eq
            have hSn := hNT; refine hK _ _ hSn ?_; clear hK; clear K; simp only [setL]
            refine WH.only 12 _ rfl (by kernel_rfl) rfl (fun K hK => ?_)
            refine ow_append_row1 _ _ _ _ rfl Tryz.underlying52 2 _ _ Tryz.entInfo24c rfl (by decide) w.heap.size _ _ rfl HOT.out _ (ecells x) rfl HbT.out rfl (by simp [ecells, Value.oneCell']) ZT.out (by have := HRl.out; omega) (by have := HRl.out; omega) ?_
            apply Stop.go; intro gn cap wU HOU HBU HGU HLU
            have hsv := Save.of_grown HGU.out
            have hnx : Next wT (Has u7) (Has (.slice (some ⟨gn, 0, none⟩) ((R k).length + 1) cap)) := Next.one HLU.out.1
            have HPU := Lib.hid (HPT.out.next hsv hnx)
            have HNU := Lib.hid (HNT.out.next hsv hnx)
            have HSU := Lib.hid (HST.out.next hsv hnx)
            have EU := Lib.hid (ET.out.trans HBU.out)
            have hNU := And.intro HNU.out.own HPU.out.own
            clear HBU HGU HLU hsv hnx HOT HPT HNT HST ET ZT HbT hNT
            have hSn := hNU; refine hK _ _ hSn ?_; clear hK; clear K; simp only [setL]
            refine WH.tk 13 ?_; simp only [setL]
            refine WH.done (by kernel_rfl) ?_
            clear hSn hNU
            go_wp2_with fail
            go_roundw
            case rel => exact ⟨k + 1, by omega, by go_num, EU, Lib.hid (by rw [HYz.out]; exact HOU.out), HPU, HNU, HSU⟩
            case measure => simp [intOf]; omega
        · obtain rfl : k = N := by omega
          have d2 : decide ((k : Int) < (k : Int)) = false := by simp
          rw [HEnd.out] at HO
          go_wp2_with fail
          go_roundw
          case rel => exact ⟨i + 1, by omega, by go_num, Ew, HO, HP, HNm, HSs⟩
          case measure => simp [intOf]; omega
    · obtain rfl : i = ns := by omega
      have d1 : decide ((i : Int) < (i : Int)) = false := by simp
      go_wp2_with fail
      go_ret
      exact ⟨_, rfl, HO.out, Ew.out⟩

end Go.Proofs.YtbajicgpjggkfaaGreat
