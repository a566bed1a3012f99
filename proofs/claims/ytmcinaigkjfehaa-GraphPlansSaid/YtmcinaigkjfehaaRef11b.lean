/-
  Contracts of the document's answer 11: All, Depth.
-/
import Derived.Test.YtmcinaigkjfehaaRef11
namespace Go.Proofs.Ytmcinaigkjfehaa
open Go.RowKit

theorem Try.boolInfoR : (Try.prog.info? 4).map (fun i => (i.zero, i.size, i.bytes)) = some (some (.bool false), 1, 1) := by kernel_rfl
theorem Try.boolSzR : (Try.prog.info? 4).map (·.size) = some 1 := by kernel_rfl
theorem Try.intSzR : (Try.prog.info? 3).map (·.size) = some 1 := by kernel_rfl
theorem fbools_lt {N : Nat} {f g : Nat → Bool} (h : ∀ i, i < N → f i = g i) : fbools N f = fbools N g := by
  unfold fbools
  congr 1
  apply List.map_congr_left
  intro i hi
  rw [h i (List.mem_range.1 hi)]
theorem RC.onlyBool {w w' : World} {g N : Nat} {t : TypeId} {f : Nat → Bool} {A : Option Addr} {l : List Int} (hr : RC w A (ivals l)) (hg : Blk w g t (fbools N f)) (ho : Only w w' g) : RC w' A (ivals l) := fun k hk => by
  obtain ⟨ad, e, hc⟩ := hr k hk
  refine ⟨ad, e, ?_⟩
  have hs : (ad.add k).spot = none := by
    unfold World.cell? at hc
    split at hc
    · split at hc
      · cases hc
      · rename_i hs; simpa using hs
    · cases hc
  have hne : (ad.add k).block ≠ g := fun e1 => by
    have e2 : ad.add k = ⟨g, (ad.add k).off, none⟩ := by
      generalize ad.add k = x at *
      cases x with
      | mk b o s => simp only at hs e1; subst hs; subst e1; rfl
    rw [e2, hg.cell] at hc
    unfold fbools at hc
    rw [List.getElem?_toArray, List.getElem?_map] at hc
    cases hh : (List.range N)[(ad.add k).off]? with
    | none => rw [hh] at hc; cases hc
    | some j =>
      rw [hh] at hc
      simp [ivals] at hc
  rw [World.cell?_of_block (w := w) (w' := w') (a := ad.add k) (ho.block _ hne)]
  exact hc
theorem allC_le_len (l : List Cg) (id : Int) : (allC l id).length ≤ l.length := by
  by_cases h : HasId l id ∧ mayC l = true
  · have := (allC_sub h.2 h.1).length_le
    rwa [List.length_map] at this
  · have : allC l id = [] := by
      by_cases h1 : HasId l id
      · exact allC_wrong (by have := fun h2 => h ⟨h1, h2⟩; simpa using this)
      · exact allC_none h1
    rw [this]
    simp
/-- What the first ones told mark. -/
theorem want_zero (l : List Cg) (f : Nat → Bool) (W : List Int) : wantK l f W 0 = f := funext fun j => wantK_zero l f W j

set_option maxRecDepth 100000 in
set_option maxHeartbeats 16000000 in
theorem rall11_any (A : Option Addr) (n cap : Nat) (l : List Cg) (hl : l.length = n) (hm : n ≤ 4096) (hN : ∀ c ∈ l, c.needs.length ≤ 4096) (id : Int) (w : World) (hr : RdL RdC w A 5 l) :
    Calls Try.prog 13 #[.slice A n cap, .int .i64 id] w (RetI w (allC l id)) := by
  have HC := Lib.hid (rmay_any A n cap l hl hm hN w hr)
  have HPl := Lib.hid (fun w' (hb : Below w.heap.size w w') => rplace_any A n cap l hl (by unfold maxLen; omega) id w' (hr.below hb))
  have Hl := Lib.hid hl
  have Hr := Lib.hid hr
  have HNN := Lib.hid hN
  obtain ⟨Z, hZ⟩ : ∃ Z, allC l id = Z := ⟨_, rfl⟩
  have HZ := Lib.hid hZ
  rw [hZ]
  cases hmay : mayC l
  · rw [hmay] at HC
    have HE : Hid (Z = []) := Lib.hid (by rw [← hZ]; exact allC_wrong hmay)
    clear hl hr hN hmay hZ
    go_enter Try.func13, Try.ntmps13
    go_wp2_with fail
    refine (HC.out).mono ?_; rintro e w2 ⟨rfl, hb2⟩
    go_wp2_with fail
    go_ret
    rw [HE.out]
    exact RetI.nil_ hb2
  · rw [hmay] at HC
    have HMay := Lib.hid hmay
    clear hl hr hN hmay hZ
    go_enter Try.func13, Try.ntmps13
    go_wp2_with fail
    refine (HC.out).mono ?_; rintro e w2 ⟨rfl, hb2⟩
    have Hb2 := Lib.hid hb2
    clear hb2
    go_wp2_with fail
    refine (HPl.out _ Hb2.out).mono ?_; rintro e wx ⟨rfl, hpl⟩
    rcases hpl with ⟨p0, hp0, rfl, hid0, -⟩ | ⟨rfl, hno⟩
    rotate_left
    focus (
      have HE : Hid (Z = []) := Lib.hid (by rw [← HZ.out]; exact allC_none (fun ⟨c, hc, e⟩ => hno c hc e))
      clear hno
      go_wp2_with fail
      go_ret
      rw [HE.out]
      exact RetI.nil_ Hb2.out)
    have d0 : decide ((p0 : Int) < 0) = false := by simp
    have HId : Hid (HasId l id) := Lib.hid ⟨_, List.getElem_mem hp0, hid0⟩
    clear hp0 hid0
    go_wp2_with (refine wpList_make_zero rfl _ _ _ _ rfl Try.underlying57 (.bool false) 1 Try.boolInfoR rfl .i64 .i64 _ _ n rfl rfl rfl rfl (by omega) (by omega) (fbools n fun _ => false) (by unfold fbools; congr 1; apply List.ext_getElem <;> simp) ?_)
    apply Stop.go; intro w3 Hg3 Hb3
    have Hw3 := Lib.hid (bt Hb2.out Hg3.out.1)
    have Hgw : Hid (w.heap.size ≤ w2.heap.size) := Lib.hid Hb2.out.size
    clear Hg3 d0
    generalize w2.heap.size = gB at *
    go_wp2_with fail
    refine (HPl.out _ Hw3.out).mono ?_; rintro e wx ⟨rfl, hpl⟩
    rcases hpl with ⟨p, hp, rfl, hid, -⟩ | ⟨rfl, hno⟩
    rotate_left
    · obtain ⟨c, hc, e⟩ := HId.out
      exact absurd e (hno c hc)
    have hpn : p < n := by have := Hl.out; omega
    have z0 : (p : Int) < n := by omega
    have HMk0 := Lib.hid (Marks.start HMay.out hp hid)
    have HDone := Lib.hid (fun f (h : Marks l id 0 f) => h.done HMay.out HId.out)
    have HOn := Lib.hid (fun m f (h : Marks l id (m + 1) f) (hml : m < l.length) (hf : f m = true) => h.on HMay.out HId.out hml hf)
    go_wp2_with (refine wpList_store_cell rfl _ _ _ rfl Try.boolSzR gB p rfl (.bool true) rfl rfl rfl _ _ Hb3.out (by rw [fbools_size]; exact hpn) ?_)
    apply Stop.go; intro w4 Ho4 Hb4
    rw [fbools_set, fbools_congr (fun i => Bool.false_or _)] at Hb4
    have Hw4 := Lib.hid (bonly Hw3.out Ho4.out Hgw.out)
    have hpos : 0 < n := by omega
    have q1 : IntKind.i64.wrap ((n : Int) - 1) = ((n - 1 : Nat) : Int) := by rw [IntKind.wrap_i64]; omega
    obtain ⟨n1, hn1⟩ : ∃ n1, n1 = n - 1 := ⟨_, rfl⟩
    rw [← hn1] at q1
    have HN1 : Hid (n = n1 + 1) := Lib.hid (by omega)
    have Hll : Hid (l.length = n1 + 1) := Lib.hid (by have := Hl.out; omega)
    rw [Hll.out] at HMk0
    clear hn1 hp hid hpos z0
    go_wp2_with fail
    go_loopw [6] (fun i wr => ∃ (m : Nat) (f : Nat → Bool), m ≤ n1 + 1 ∧ ((m = 0 ∧ i = .int .i64 (-1)) ∨ ∃ k : Nat, m = k + 1 ∧ i = .int .i64 k) ∧ Blk wr gB 4 (fbools n f) ∧ Marks l id m f ∧ Below w.heap.size w wr) (fun i _ => (intOf i + 1).toNat)
    case atStart => exact ⟨n1 + 1, _, Nat.le_refl _, Or.inr ⟨n1, rfl, rfl⟩, Hb4.out, HMk0.out, Hw4.out⟩
    case round =>
      obtain ⟨m, f, hmp, hi, hB, hMk, hO⟩ := hrel
      have HB := Lib.hid hB
      have HMk := Lib.hid hMk
      have HBw := Lib.hid hO
      clear hB hMk hO
      rcases hi with ⟨rfl, rfl⟩ | ⟨k, rfl, rfl⟩
      · have HSub := Lib.hid (HDone.out f HMk.out)
        rw [Hl.out, HZ.out] at HSub
        clear HOn HDone HMk HMk0
        generalize hw9 : wr = w9 at *
        clear hw9
        go_wp2_with fail
        go_loopw [9, 10] (fun v i wr => ∃ k : Nat, k ≤ n ∧ i = .int .i64 k ∧ OwnC wr w9.heap.size 3 v (ivals (markK l f k)) ∧ Below w9.heap.size w9 wr) (fun _ i _ => n - (intOf i).toNat)
        case atStart => exact ⟨0, Nat.zero_le _, rfl, OwnC.nil_ _ _ _, Below.refl _ _⟩
        case round =>
          obtain ⟨k, hk, rfl, hu, hbw⟩ := hrel
          have Hu := Lib.hid hu
          have Hbw := Lib.hid hbw
          clear hu hbw
          by_cases hlt : k < n
          · have d1 : decide ((k : Int) < n) = true := by simpa using hlt
            have hkl : k < l.length := by have := Hl.out; omega
            have z5 : (k : Int) < n := by omega
            obtain ⟨b, hfk⟩ : ∃ b, f k = b := ⟨_, rfl⟩
            have k1 : wr.cell? ⟨gB, k, none⟩ = some (.bool b) := by rw [(HB.out.ext Hbw.out).cell, fbools_get _ _ _ hlt, hfk]
            cases b
            · have HX := Lib.hid (markK_off (l := l) hfk)
              clear hfk
              go_wp2_with fail
              go_roundw
              case rel => exact ⟨k + 1, by omega, by go_num, by rw [HX.out]; exact Hu.out, Hbw.out⟩
              case measure => simp [intOf]; omega
            · have HX := Lib.hid (markK_on (l := l) hfk)
              have hlen := markK_len l f k
              rw [idA_eq hkl] at HX
              have D := Lib.hid (HBw.out.trans (Hbw.out.mono HBw.out.size))
              obtain ⟨ad, Ad, nd, cd, An, nn, cn, rfl, hcv, h0, h1, h2, h3, h4⟩ := (Hr.out.below D.out).cg hkl
              have h00 := cell_fld (i := 0) h0 (by rw [add_of_add]; exact h0)
              have hl1 : (ivals (markK l f k)).length + 1 ≤ maxLen := by rw [ivals_len]; unfold maxLen; omega
              have hl2 : ((ivals (markK l f k)).length + 1) * 8 ≤ 140737488355328 := by rw [ivals_len]; omega
              clear h1 h2 h3 h4 hcv hfk
              generalize l[k].id = z at *
              generalize markK l f k = L at *
              go_wp2_with (at_builtin; refine wpList_append_one rfl _ _ _ _ rfl Try.underlying28 (.int .i64 0) 8 Try.infoInt rfl w9.heap.size _ _ rfl Hu.out (.int .i64 z) rfl rfl Hbw.out.size hl1 hl2 ?_)
              apply Stop.go
              intro v' w6 Hv' Ha'
              go_wp2_with fail
              go_roundw
              case rel => exact ⟨k + 1, by omega, by go_num, by rw [HX.out, ← ivals_snoc]; exact Hv'.out, Hbw.out.trans Ha'.out.below⟩
              case measure => simp [intOf]; omega
          · have d1 : decide ((k : Int) < n) = false := by simpa using hlt
            have hkn : k = n := by omega
            rw [hkn, HSub.out] at Hu
            clear hkn
            go_wp2_with fail
            go_ret
            exact Hu.out.retI (HBw.out.trans (Hbw.out.mono HBw.out.size))
      · have d1 : decide ((0 : Int) ≤ (k : Int)) = true := by simp
        have hkn : k < n := by have := HN1.out; omega
        have hkl : k < l.length := by have := Hl.out; omega
        have z5 : (k : Int) < n := by omega
        have q2 : IntKind.i64.wrap ((k : Int) - 1) = (k : Int) - 1 := by rw [IntKind.wrap_i64]; omega
        obtain ⟨b, hfk⟩ : ∃ b, f k = b := ⟨_, rfl⟩
        have k1 : wr.cell? ⟨gB, k, none⟩ = some (.bool b) := by rw [HB.out.cell, fbools_get _ _ _ hkn, hfk]
        cases b
        · have HX := Lib.hid (HMk.out.off hfk)
          clear hfk
          go_wp2_with fail
          go_roundw
          case rel => exact ⟨k, f, by omega, (by
            cases k with
            | zero => exact Or.inl ⟨rfl, by all_goals first | rfl | go_num⟩
            | succ k => exact Or.inr ⟨k, rfl, by all_goals first | rfl | go_num⟩), HB.out, HX.out, HBw.out⟩
          case measure => simp [intOf] <;> omega
        · have HX := Lib.hid (HOn.out k f HMk.out hkl hfk)
          obtain ⟨ad, Ad, nd, cd, An, nn, cn, rfl, hcv, h0, h1, h2, h3, h4⟩ := (Hr.out.below HBw.out).cg hkl
          have h00 := cell_fld (i := 0) h0 (by rw [add_of_add]; exact h0)
          have Hat : Hid (∀ x ∈ waitsC l l[k].id, ∃ q, ∃ hq : q < l.length, l[q].id = x) := Lib.hid (fun x hx => by
            obtain ⟨d, hd, e⟩ := waitsC_mem hx
            obtain ⟨q, hq, rfl⟩ := List.getElem_of_mem hd
            exact ⟨q, hq, e⟩)
          clear h1 h2 h3 h4 hcv hfk
          generalize l[k].id = z at *
          go_wp2_with fail
          refine (rwaits9_any (some ad) n cap l Hl.out hm HNN.out z _ (Hr.out.below HBw.out)).mono ?_; rintro e w5 ⟨A5, n5, c5, rfl, hn5, hc5, hm5, hr5, hb5⟩
          have HB5 := Lib.hid (HB.out.ext hb5)
          have HBw5 := Lib.hid (bt HBw.out hb5)
          have Hn5 := Lib.hid hn5
          have Hr5 := Lib.hid hr5
          have hlW : n5 ≤ 4096 := by
            rw [← hn5]
            have := waitsC_len l z
            have := Hl.out
            omega
          have HXa := Lib.hid HX.out
          rw [show (fun j => f j || (waitsC l z).contains (idA l j)) = wantK l f (waitsC l z) (waitsC l z).length from funext fun j => (wantK_all l f _ j).symm] at HXa
          clear hn5 hr5 hb5 HX h0 h00 k1 HB HBw
          generalize waitsC l z = W at *
          go_wp2_with fail
          go_loopw [8] (fun i wr => ∃ j : Nat, j ≤ n5 ∧ i = .int .i64 j ∧ Blk wr gB 4 (fbools n (wantK l f W j)) ∧ RC wr A5 (ivals W) ∧ Below w.heap.size w wr) (fun i _ => n5 - (intOf i).toNat)
          case atStart => exact ⟨0, Nat.zero_le _, rfl, by rw [want_zero]; exact HB5.out, Hr5.out, HBw5.out⟩
          case round =>
            obtain ⟨j, hj, rfl, hB, hrc, hbw⟩ := hrel
            have HB := Lib.hid hB
            have Hrc := Lib.hid hrc
            have Hbw := Lib.hid hbw
            clear hB hrc hbw
            by_cases hjl : j < n5
            · have d2 : decide ((j : Int) < n5) = true := by simpa using hjl
              have hjW : j < W.length := by have := Hn5.out; omega
              obtain ⟨ak, rfl, k3⟩ := Hrc.out.int j hjW
              obtain ⟨q0, hq0, hq0e⟩ := Hat.out W[j] (List.getElem_mem hjW)
              have HWs := Lib.hid (fun q (hq : q < l.length) (e : l[q].id = W[j]) => fbools_lt (N := n) (f := fun i => wantK l f W j i || decide (i = q)) (g := wantK l f W (j + 1)) (fun i hi => (wantK_succ HMay.out f hjW hq e (by have := Hl.out; omega)).symm))
              have HPq := Lib.hid (rplace_any (some ad) n cap l Hl.out (by unfold maxLen; omega) W[j] _ (Hr.out.below Hbw.out))
              generalize W[j] = x at *
              go_wp2_with fail
              refine (HPq.out).mono ?_; rintro e wx ⟨rfl, hpl⟩
              rcases hpl with ⟨q, hq, rfl, hqe, -⟩ | ⟨rfl, hno⟩
              rotate_left
              · exact absurd hq0e (hno _ (List.getElem_mem hq0))
              have hqn : q < n := by have := Hl.out; omega
              have z6 : (q : Int) < n := by omega
              have HWq := Lib.hid (HWs.out q hq hqe)
              clear HWs HPq hq hqe hq0 hq0e k3
              go_wp2_with (refine wpList_store_cell rfl _ _ _ rfl Try.boolSzR gB q rfl (.bool true) rfl rfl rfl _ _ HB.out (by rw [fbools_size]; exact hqn) ?_)
              apply Stop.go; intro w7 Ho7 Hb7
              have Hrc7 := Lib.hid (Hrc.out.onlyBool HB.out Ho7.out)
              rw [fbools_set, HWq.out] at Hb7
              go_wp2_with fail
              go_roundw
              case rel => exact ⟨j + 1, by omega, by go_num, Hb7.out, Hrc7.out, bonly Hbw.out Ho7.out Hgw.out⟩
              case measure => simp [intOf]; omega
            · have d2 : decide ((j : Int) < n5) = false := by simpa using hjl
              have hjn : j = W.length := by have := Hn5.out; omega
              rw [hjn] at HB
              clear hjn
              go_wp2_with fail
              go_roundw
              case rel => exact ⟨k, _, by omega, (by
                cases k with
                | zero => exact Or.inl ⟨rfl, by all_goals first | rfl | go_num⟩
                | succ k => exact Or.inr ⟨k, rfl, by all_goals first | rfl | go_num⟩), HB.out, HXa.out, Hbw.out⟩
              case measure => simp [intOf] <;> omega

end Go.Proofs.Ytmcinaigkjfehaa
