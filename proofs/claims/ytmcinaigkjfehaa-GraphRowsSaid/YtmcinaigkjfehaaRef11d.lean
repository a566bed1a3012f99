/-
  Contracts of the document's answer 11: Plan, Drain.
-/
import Derived.Test.YtmcinaigkjfehaaRef11c
import Derived.Test.YtmcinaigkjfehaaGr4
import Derived.Test.YtmcinaigkjfehaaCg10
namespace Go.Proofs.Ytmcinaigkjfehaa
open Go.RowKit

theorem OwnC.wr_nil (w : World) (B : Nat) (e : TypeId) : OwnC w B e (.slice none 0 0) (ivals []) := OwnC.nil_ w B e
theorem block_of {l : List Cg} {x : Int} {k : Nat} (hk : k < l.length) (h : l[k].id = x) (hb : ∀ j (h : j < l.length), j < k → l[j].id ≠ x) : blockOf l x = l[k].block := by
  unfold blockOf
  rw [findC_at hk h hb]
  rfl
theorem left_len (l : List Cg) (b : Int) : (leftC l b).length ≤ l.length := List.length_filter_le _ _

set_option maxRecDepth 100000 in
set_option maxHeartbeats 16000000 in
theorem rdrain11_any (A : Option Addr) (n cap : Nat) (l : List Cg) (hl : l.length = n) (hcap : n ≤ cap ∧ cap ≤ maxLen) (hm : n ≤ 4096) (hN : ∀ c ∈ l, c.needs.length ≤ 4096) (w : World) (hr : RdL RdC w A 5 l) :
    Calls Try.prog 21 #[.slice A n cap] w (RetI w (drainC l)) := by
  have HC := Lib.hid (rmay_any A n cap l hl hm hN w hr)
  have Hl := Lib.hid hl
  have Hr := Lib.hid hr.isLow
  have HNN := Lib.hid hN
  have Hcap := Lib.hid hcap
  clear hcap
  cases hmay : mayC l
  · rw [hmay] at HC
    have HE : Hid (drainC l = []) := Lib.hid (by unfold drainC; rw [hmay]; rfl)
    clear hl hr hN hmay
    go_enter Try.func21, Try.ntmps21
    go_wp2_with fail
    refine (HC.out).mono ?_; rintro e w2 ⟨rfl, hb2⟩
    go_wp2_with fail
    go_ret
    rw [HE.out]
    exact RetI.nil_ hb2
  · rw [hmay] at HC
    have HE : Hid (drainC l = drainGo n l) := Lib.hid (by unfold drainC; rw [hmay, hl]; rfl)
    generalize drainC l = Z at *
    clear hl hr hN hmay
    go_enter Try.func21, Try.ntmps21
    go_wp2_with fail
    refine (HC.out).mono ?_; rintro e w2 ⟨rfl, hb2⟩
    have Hb2 := Lib.hid hb2
    clear hb2
    go_wp2_with fail
    go_loopw [0, 3, 4] (fun v v3 i wr => ∃ (m : Nat) (A1 : Option Addr) (n1 c1 : Nat) (L : List Cg) (out : List Int), i = .int .i64 m ∧ v = .slice A1 n1 c1 ∧ OwnC wr w.heap.size 3 v3 (ivals out) ∧ L.length = n1 ∧ (n1 ≤ n ∧ n1 ≤ c1 ∧ c1 ≤ maxLen) ∧ RdL (RdLow w.heap.size) wr A1 5 L ∧ (∀ ad, A1 = some ad → v3.ownBlock ≠ some ad.block) ∧ (∀ c ∈ L, c.needs.length ≤ 4096) ∧ out ++ drainGo m L = Z ∧ out.length + m ≤ n ∧ Below w.heap.size w wr) (fun _ _ i _ => (intOf i).toNat)
    case atStart => exact ⟨n, A, n, cap, l, [], rfl, rfl, OwnC.wr_nil _ _ _, Hl.out, ⟨Nat.le_refl _, Hcap.out.1, Hcap.out.2⟩, Hr.out.below Hb2.out, fun ad _ => by simp [Value.ownBlock], HNN.out, HE.out.symm, by simp, Hb2.out⟩
    case round =>
      obtain ⟨m, A1, n1, c1, L, out, rfl, rfl, hu, h1, h2, h3, h4, h5, h6, h7, h8⟩ := hrel
      have Hu := Lib.hid hu
      have H1 := Lib.hid h1
      have H3 := Lib.hid h3
      have H4 := Lib.hid h4
      have H5 := Lib.hid h5
      have H6 := Lib.hid h6
      have H7 := Lib.hid h7
      have H8 := Lib.hid h8
      have hn1 : n1 ≤ 4096 := by omega
      clear hu h1 h3 h4 h5 h6 h7 h8
      cases m with
      | zero =>
        have d0 : decide ((0 : Int) < ((0 : Nat) : Int)) = false := by decide
        have HX : Hid (out = Z) := Lib.hid (by have := H6.out; rw [show drainGo 0 L = [] from rfl, List.append_nil] at this; exact this)
        rw [HX.out] at Hu
        go_wp2_with fail
        go_ret
        exact Hu.out.retI H8.out
      | succ m =>
        have d0 : decide ((0 : Int) < ((m + 1 : Nat) : Int)) = true := by simp <;> omega
        obtain ⟨M, hM⟩ : ∃ M, M = m + 1 := ⟨_, rfl⟩
        have HM := Lib.hid hM
        rw [← hM] at d0 H6 H7 ⊢
        have d1 : decide (0 < M) = true := by simp <;> omega
        have q1 : IntKind.i64.wrap ((M : Int) - 1) = (m : Int) := by have := H7.out; rw [IntKind.wrap_i64]; omega
        clear hM
        cases hL : L with
        | nil =>
          have hn0 : n1 = 0 := by rw [← H1.out, hL]; rfl
          have HX : Hid (out = Z) := Lib.hid (by have := H6.out; rw [hL, HM.out, show drainGo (m + 1) [] = [] from rfl, List.append_nil] at this; exact this)
          rw [HX.out] at Hu
          subst hn0
          clear hL
          go_wp2_with fail
          go_ret
          exact Hu.out.retI H8.out
        | cons c L1 =>
          have hpos : 0 < n1 := by rw [← H1.out, hL]; simp
          have d2 : decide ((0 : Int) < (n1 : Int)) = true := by simpa using hpos
          have d3 : decide (0 < n1) = true := by simpa using hpos
          have hp0 : 0 < L.length := by rw [hL]; simp
          obtain ⟨ad, Ad, nd, cd, An, nn, cn, rfl, hcv, c0, c1', _, _, _⟩ := (H3.out.plainLow).cg hp0
          have e0 : ad.add (0 * 5) = ad := by rw [Nat.zero_mul]; unfold Addr.add; rfl
          rw [e0] at c0 c1'
          have k1 := cell_fld c0 c1'
          have HS : Hid (out ++ [L[0].block] ++ drainGo m (leftC L L[0].block) = Z) := Lib.hid (by
            have := H6.out
            rw [HM.out] at this
            rw [List.append_assoc, ← this]
            subst hL
            rfl)
          have z1 : (0 : Int) < n1 := by omega
          clear hL hcv c0 c1' e0
          generalize L[0].block = b at *
          have hl1 : (ivals out).length + 1 ≤ maxLen := by rw [ivals_len]; have := H7.out; unfold maxLen; omega
          have hl2 : ((ivals out).length + 1) * 8 ≤ 140737488355328 := by rw [ivals_len]; have := H7.out; omega
          have hl3 : out.length + 1 ≤ maxLen := by rw [ivals_len] at hl1; exact hl1
          have hl4 : (out.length + 1) * 8 ≤ 140737488355328 := by rw [ivals_len] at hl2; exact hl2
          have Hal := Lib.hid (Grew.alloc wr (.cells #[.int .i64 b] 3)).1
          go_wp2_with (at_builtin; refine wpList_append_int rfl _ _ _ _ rfl Try.underlying28 (.int .i64 0) 8 Try.infoInt rfl w.heap.size _ out rfl (Hu.out.ext Hal.out) b _ rfl _ (Blk.new _ _ _) (Nat.le_trans H8.out.size Hal.out.size) hl3 hl4 ?_)
          apply Stop.go
          intro v' w6 Hv' Ha' Hl'
          have H36 := Lib.hid ((H3.out.below Hal.out).keepRow Hl'.out.grown (fun k hk => (Hu.out.lt k hk).1) H4.out)
          have H86 := Lib.hid ((H8.out.trans (Hal.out.mono H8.out.size)).trans Ha'.out.below)
          clear Hu H3 H4 H8 Ha' Hl' Hal k1
          go_wp2_with fail
          refine (rready9_any (some ad) n1 c1 L H1.out hn1 H5.out b _ H36.out.plainLow).mono ?_; rintro e w7 ⟨A5, n5, c5, rfl, hn5, hc5, hm5, hr5, hb5⟩
          have Hn5 := Lib.hid hn5
          have Hr5 := Lib.hid hr5
          have Hb5 := Lib.hid hb5
          have hn5l : n5 ≤ 4096 := by rw [← hn5]; have := ready_len L b; have := H1.out; omega
          have H87 := Lib.hid (bt H86.out hb5)
          clear hn5 hr5 hb5
          go_wp2_with fail
          refine (rwithoutL_any w.heap.size (some ad) n1 c1 L H1.out hn1 A5 n5 c5 (readyC L b) Hn5.out hn5l _ H87.out.size (H36.out.below Hb5.out) Hr5.out).mono ?_; rintro e w8 ⟨A6, n6, c6, rfl, hn6, hc6, hm6, hr6, hA6, hb6⟩
          have Hv8 := Lib.hid ((Hv'.out.ext Hb5.out).ext hb6)
          have Hv7 := Lib.hid (Hv'.out.ext Hb5.out)
          have HX := Lib.hid (And.intro hn6 (And.intro (show n6 ≤ n ∧ n6 ≤ c6 ∧ c6 ≤ maxLen from ⟨by have h1 := left_len L b; have h2 := H1.out; have h3 : (leftC L b).length = n6 := hn6; have := h2; omega, hc6, hm6⟩) (And.intro hr6 (And.intro (show ∀ a6, A6 = some a6 → v'.ownBlock ≠ some a6.block from fun a6 e e2 => by
            have h1 := hA6 a6 e
            have h2 := (Hv7.out.lt _ e2).2
            omega) (bt H87.out hb6)))))
          have HN6 : Hid (∀ c ∈ leftC L b, c.needs.length ≤ 4096) := Lib.hid (fun c hc => H5.out c (List.mem_filter.1 hc).1)
          clear hn6 hc6 hm6 hr6 hb6 hA6
          go_wp2_with fail
          go_roundw
          case rel => exact ⟨m, A6, n6, c6, leftC L b, out ++ [b], by go_num, rfl, Hv8.out, HX.out.1, HX.out.2.1, HX.out.2.2.1, HX.out.2.2.2.1, HN6.out, HS.out, by simp; have := H7.out; have := HM.out; omega, HX.out.2.2.2.2⟩
          case measure => simp [intOf]; have := HM.out; omega

set_option maxRecDepth 100000 in
set_option maxHeartbeats 16000000 in
theorem rplan11_any (A : Option Addr) (n cap : Nat) (l : List Cg) (hl : l.length = n) (hcap : n ≤ cap ∧ cap ≤ maxLen) (hm : n ≤ 4096) (hN : ∀ c ∈ l, c.needs.length ≤ 4096) (id : Int) (w : World) (hr : RdL RdC w A 5 l) :
    Calls Try.prog 19 #[.slice A n cap, .int .i64 id] w (RetI w (planC l id)) := by
  have Hl := Lib.hid hl
  have Hr := Lib.hid hr.isLow
  have HNN := Lib.hid hN
  have Hcap := Lib.hid hcap
  have HE : Hid (planC l id = planGo n l id) := Lib.hid (by unfold planC; rw [hl])
  generalize planC l id = Z at *
  clear hcap hl hr hN
  go_enter Try.func19, Try.ntmps19
  go_wp2_with fail
  go_loopw [0, 5, 6] (fun v v3 i wr => ∃ (m : Nat) (A1 : Option Addr) (n1 c1 : Nat) (L : List Cg) (out : List Int), i = .int .i64 m ∧ v = .slice A1 n1 c1 ∧ OwnC wr w.heap.size 3 v3 (ivals out) ∧ L.length = n1 ∧ (n1 ≤ n ∧ n1 ≤ c1 ∧ c1 ≤ maxLen) ∧ RdL (RdLow w.heap.size) wr A1 5 L ∧ (∀ ad, A1 = some ad → v3.ownBlock ≠ some ad.block) ∧ (∀ c ∈ L, c.needs.length ≤ 4096) ∧ out ++ planGo m L id = Z ∧ out.length + m ≤ n ∧ Below w.heap.size w wr) (fun _ _ i _ => (intOf i).toNat)
  case atStart => exact ⟨n, A, n, cap, l, [], rfl, rfl, OwnC.wr_nil _ _ _, Hl.out, ⟨Nat.le_refl _, Hcap.out.1, Hcap.out.2⟩, Hr.out, fun ad _ => by simp [Value.ownBlock], HNN.out, HE.out.symm, by simp, Below.refl _ _⟩
  case round =>
    obtain ⟨m, A1, n1, c1, L, out, rfl, rfl, hu, h1, h2, h3, h4, h5, h6, h7, h8⟩ := hrel
    have Hu := Lib.hid hu
    have H1 := Lib.hid h1
    have H3 := Lib.hid h3
    have H4 := Lib.hid h4
    have H5 := Lib.hid h5
    have H6 := Lib.hid h6
    have H7 := Lib.hid h7
    have H8 := Lib.hid h8
    have hn1 : n1 ≤ 4096 := by omega
    clear hu h1 h3 h4 h5 h6 h7 h8
    cases m with
    | zero =>
      have d0 : decide ((0 : Int) < ((0 : Nat) : Int)) = false := by decide
      have HX : Hid (out = Z) := Lib.hid (by have := H6.out; rw [show planGo 0 L id = [] from rfl, List.append_nil] at this; exact this)
      rw [HX.out] at Hu
      go_wp2_with fail
      go_ret
      exact Hu.out.retI H8.out
    | succ m =>
      have d0 : decide ((0 : Int) < ((m + 1 : Nat) : Int)) = true := by simp <;> omega
      obtain ⟨M, hM⟩ : ∃ M, M = m + 1 := ⟨_, rfl⟩
      have HM := Lib.hid hM
      rw [← hM] at d0 H6 H7 ⊢
      have d1 : decide (0 < M) = true := by simp <;> omega
      have q1 : IntKind.i64.wrap ((M : Int) - 1) = (m : Int) := by have := H7.out; rw [IntKind.wrap_i64]; omega
      clear hM
      go_wp2_with fail
      refine (rall11_any A1 n1 c1 L H1.out hn1 H5.out id _ H3.out.plainLow).mono ?_; rintro e w5 ⟨A5, n5, c5, rfl, hn5, hc5, hm5, hr5, hb5⟩
      have Hn5 := Lib.hid hn5
      have Hr5 := Lib.hid hr5
      have Hb5 := Lib.hid hb5
      clear hn5 hr5 hb5
      cases hA : allC L id with
      | nil =>
        have hn0 : n5 = 0 := by rw [← Hn5.out, hA]; rfl
        have HX : Hid (out = Z) := Lib.hid (by
          have := H6.out
          rw [HM.out, show planGo (m + 1) L id = (match allC L id with | [] => [] | x :: _ => blockOf L x :: planGo m (leftC L (blockOf L x)) id) from rfl, hA, List.append_nil] at this
          exact this)
        rw [HX.out] at Hu
        subst hn0
        clear hA
        have Hu5 := Lib.hid (Hu.out.ext Hb5.out)
        go_wp2_with fail
        go_ret
        exact Hu5.out.retI (bt H8.out Hb5.out)
      | cons x t =>
        have hpos : 0 < n5 := by rw [← Hn5.out, hA]; simp
        have d2 : ((n5 : Int) == 0) = false := by simp; omega
        have d3 : decide ((n5 : Int) = 0) = false := by simp; omega
        have z1 : (0 : Int) < n5 := by omega
        have hr0 := Hr5.out
        rw [hA] at hr0
        obtain ⟨a5, rfl, k0⟩ := hr0.int 0 (by simp)
        have e0 : a5.add 0 = a5 := by unfold Addr.add; rfl
        rw [e0] at k0
        have hin : ∃ c ∈ L, c.id = x := by
          by_cases hh : HasId L id ∧ mayC L = true
          · obtain ⟨c, hc, e⟩ := List.mem_map.1 ((allC_sub hh.2 hh.1).subset (show x ∈ allC L id by rw [hA]; simp))
            exact ⟨c, hc, e⟩
          · have : allC L id = [] := by
              by_cases h1 : HasId L id
              · exact allC_wrong (by have := fun h2 => hh ⟨h1, h2⟩; simpa using this)
              · exact allC_none h1
            rw [hA] at this
            cases this
        have HIn := Lib.hid hin
        have HS : Hid (out ++ [blockOf L x] ++ planGo m (leftC L (blockOf L x)) id = Z) := Lib.hid (by
          have := H6.out
          rw [HM.out, show planGo (m + 1) L id = (match allC L id with | [] => [] | x :: _ => blockOf L x :: planGo m (leftC L (blockOf L x)) id) from rfl, hA] at this
          rw [List.append_assoc, ← this]
          rfl)
        have HPq := Lib.hid (rplace_any A1 n1 c1 L H1.out (by unfold maxLen; omega) x _ (H3.out.plainLow.below Hb5.out))
        simp only [List.getElem_cons_zero] at k0
        clear hA hr0 e0 hin hpos
        go_wp2_with fail
        refine (HPq.out).mono ?_; rintro e wx ⟨rfl, hpl⟩
        rcases hpl with ⟨q, hq, rfl, hqe, hqb⟩ | ⟨rfl, hno⟩
        rotate_left
        · obtain ⟨c, hc, e⟩ := HIn.out
          exact absurd e (hno c hc)
        have hbk := block_of hq hqe hqb
        rw [hbk] at HS
        have hqn : q < n1 := by have := H1.out; omega
        have z2 : (q : Int) < n1 := by omega
        obtain ⟨ad, Ad, nd, cd, An, nn, cn, rfl, hcv, c0, c1', _, _, _⟩ := (H3.out.plainLow.below Hb5.out).cg hq
        have k1 := cell_fld c0 c1'
        clear hcv c0 c1' hbk hqb hqe HPq HIn k0
        generalize L[q].block = b at *
        have hl3 : out.length + 1 ≤ maxLen := by have := H7.out; unfold maxLen; omega
        have hl4 : (out.length + 1) * 8 ≤ 140737488355328 := by have := H7.out; omega
        have H35 := Lib.hid (H3.out.below Hb5.out)
        have Hu5 := Lib.hid (Hu.out.ext Hb5.out)
        have H85 := Lib.hid (bt H8.out Hb5.out)
        obtain ⟨wq, hwq⟩ : ∃ x, x = wr := ⟨_, rfl⟩
        have Hal := Lib.hid (Grew.alloc w5 (.cells #[.int .i64 b] 3)).1
        go_wp2_with (at_builtin; refine wpList_append_int rfl _ _ _ _ rfl Try.underlying28 (.int .i64 0) 8 Try.infoInt rfl w.heap.size _ out rfl (Hu5.out.ext Hal.out) b _ rfl _ (Blk.new _ _ _) (Nat.le_trans H85.out.size Hal.out.size) hl3 hl4 ?_)
        apply Stop.go
        intro v' w6 Hv' Ha' Hl'
        have H36 := Lib.hid ((H35.out.below Hal.out).keepRow Hl'.out.grown (fun k hk => (Hu5.out.lt k hk).1) H4.out)
        have H86 := Lib.hid ((H85.out.trans (Hal.out.mono H85.out.size)).trans Ha'.out.below)
        clear Hu H3 H4 H8 Ha' Hl' Hal k1
        go_wp2_with fail
        refine (rready9_any (some ad) n1 c1 L H1.out hn1 H5.out b _ H36.out.plainLow).mono ?_; rintro e w7 ⟨A7, n7, c7, rfl, hn7, hc7, hm7, hr7, hb7⟩
        have Hn7 := Lib.hid hn7
        have Hr7 := Lib.hid hr7
        have Hb7 := Lib.hid hb7
        have hn7l : n7 ≤ 4096 := by rw [← hn7]; have := ready_len L b; have := H1.out; omega
        have H87 := Lib.hid (bt H86.out hb7)
        clear hn7 hr7 hb7
        go_wp2_with fail
        refine (rwithoutL_any w.heap.size (some ad) n1 c1 L H1.out hn1 A7 n7 c7 (readyC L b) Hn7.out hn7l _ H87.out.size (H36.out.below Hb7.out) Hr7.out).mono ?_; rintro e w8 ⟨A6, n6, c6, rfl, hn6, hc6, hm6, hr6, hA6, hb6⟩
        have Hv8 := Lib.hid ((Hv'.out.ext Hb7.out).ext hb6)
        have Hv7 := Lib.hid (Hv'.out.ext Hb7.out)
        have HX := Lib.hid (And.intro hn6 (And.intro (show n6 ≤ n ∧ n6 ≤ c6 ∧ c6 ≤ maxLen from ⟨by have h1 := left_len L b; have h2 := H1.out; have h3 : (leftC L b).length = n6 := hn6; omega, hc6, hm6⟩) (And.intro hr6 (And.intro (show ∀ a6, A6 = some a6 → v'.ownBlock ≠ some a6.block from fun a6 e e2 => by
          have h1 := hA6 a6 e
          have h2 := (Hv7.out.lt _ e2).2
          omega) (bt H87.out hb6)))))
        have HN6 : Hid (∀ c ∈ leftC L b, c.needs.length ≤ 4096) := Lib.hid (fun c hc => H5.out c (List.mem_filter.1 hc).1)
        clear hn6 hc6 hm6 hr6 hb6 hA6
        go_wp2_with fail
        go_roundw
        case rel => exact ⟨m, A6, n6, c6, leftC L b, out ++ [b], by go_num, rfl, Hv8.out, HX.out.1, HX.out.2.1, HX.out.2.2.1, HX.out.2.2.2.1, HN6.out, HS.out, by simp; have := H7.out; have := HM.out; omega, HX.out.2.2.2.2⟩
        case measure => simp [intOf]; have := HM.out; omega

end Go.Proofs.Ytmcinaigkjfehaa
