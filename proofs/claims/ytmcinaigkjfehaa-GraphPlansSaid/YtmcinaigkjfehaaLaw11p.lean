/-
  The walk of GraphPlans.
-/
import Derived.Test.YtmcinaigkjfehaaLw11w
import Derived.Test.YtmcinaigkjfehaaLw9a
import Derived.Test.YtmcinaigkjfehaaLw11b
import Derived.Test.YtmcinaigkjfehaaRef11c
import Derived.Test.YtmcinaigkjfehaaGr4
import Derived.Test.YtmcinaigkjfehaaCg10
namespace Go.Proofs.Ytmcinaigkjfehaa
open Go.RowKit

/-- Is one of these done from the one list to the other? -/
def didB (L M : List Cg) (Z : List Int) : Bool := Z.any fun a => (findC L a).isSome && !(findC M a).isSome
theorem didB_snoc (L M : List Cg) (Z : List Int) (a : Int) : didB L M (Z ++ [a]) = (didB L M Z || ((findC L a).isSome && !(findC M a).isSome)) := by
  simp [didB, List.any_append]
theorem hasB_no {l : List Cg} {a : Int} (h : ¬ HasId l a) : (findC l a).isSome = false := by
  cases e : (findC l a).isSome
  · rfl
  · exact absurd (findC_some.2 e) h
theorem didB_of {L M : List Cg} {Z : List Int} (h : ∃ a ∈ Z, HasId L a ∧ ¬ HasId M a) : didB L M Z = true := by
  obtain ⟨a, ha, h1, h2⟩ := h
  exact List.any_eq_true.2 ⟨a, ha, by rw [findC_some.1 h1, hasB_no h2]; rfl⟩
theorem after_mem : ∀ (bs : List Int) (l : List Cg), ∀ c ∈ afterC l bs, c ∈ l := by
  intro bs
  induction bs with
  | nil => intro l c h; exact h
  | cons b bs ih => intro l c h; exact (List.mem_filter.1 (ih _ c h)).1
theorem Try.intSize11 : (Try.prog.info? 3).map (·.size) = some 1 := by kernel_rfl
/-- Find, and whether there is one. -/
theorem pfind_is (A : Option Addr) (n cap : Nat) (l : List Cg) (hn : l.length = n) (hm : n ≤ 4096) (hD : ∀ c ∈ l, c.p.data.length ≤ 4096 ∧ c.needs.length ≤ 4096) (id : Int) (b : Bool) (hb : (findC l id).isSome = b) (w : World) (hr : RdL RdC w A 5 l) :
    Calls Try.prog 26 #[.slice A n cap, .int .i64 id] w fun e w' => ∃ (x0 x1 x2 : Int) (A3 : Option Addr) (n3 c3 : Nat) (A4 : Option Addr) (n4 c4 : Nat), e = .returned (.tuple #[.agg #[.int .i64 x0, .int .i64 x1, .int .i64 x2, .slice A3 n3 c3, .slice A4 n4 c4], .bool b]) ∧ Below w.heap.size w w' := by
  refine (pfind_any A n cap l hn hm hD id w hr).mono ?_
  rintro e w' ⟨c, Ad, nd, cd, An, nn, cn, hc, rfl, _, _, _, hb'⟩
  rw [hb]
  exact ⟨_, _, _, _, _, _, _, _, _, rfl, hb'⟩
section
variable {P : Program} {ops : Array Oper} {rest : List Oper} {o : Oper} {a : Act} {w : World} {Q : Exit → Act → World → Prop}
/-- A cut of a slice of one-cell values, wherever it lies. -/
theorem wpList_slice_ad (hgd : Region.wanted o (yielded ops a.tmps) = true) (t : TypeId) (x lo hi : Operand) (ho : o.op = .slice t x (some lo) (some hi) none) (e : TypeId) (hu : P.underlying t = some (.slice e)) (hs : (P.info? e).map (·.size) = some 1)
    (ad : Addr) (n c : Nat) (hx : a.eval x = .slice (some ad) n c) (kl kh : IntKind) (L H : Int) (hlo : a.eval lo = .int kl L) (hhi : a.eval hi = .int kh H) (l h : Nat) (hL : L = l) (hH : H = h) (h1 : l ≤ h) (h2 : h ≤ c) (h3 : l < c)
    (k : wpList P ops Q rest (a.put o.dst (.slice (some (ad.add l)) (h - l) (c - l))) w) : wpList P ops Q (o :: rest) a w := by
  refine wpList_wanted hgd fun K hK => ?_
  subst hL; subst hH
  have hel : P.elem t = e := by simp [Program.elem, hu]
  have hr : (Instr.slice t (.slice (some ad) n c) (some (.int kl (l : Int))) (some (.int kh (h : Int))) none).run P w = .ok (.slice (some (ad.add l)) (h - l) (c - l)) w := by
    rw [run_slice_lh w t _ _ _ (by rw [hel]; exact hu) kl kh l h (by omega) (by omega) (by omega), hel, sizeOf_of hs]
    simp only [Result.andThen, sliced, Int.toNat_natCast, Option.map_some, Nat.mul_one]
    rw [if_neg (by omega)]
  unfold Oper.wp execOp
  simp only [ho, hx, hlo, hhi, Sem.run_bind, Sem.run_pure, Result.andThen_ok, Option.map_some, Option.map_none, Instr.sliceAt, run_underlying hu, hr]
  exact hK _ _ k
end
theorem RC.part1 {w : World} {ad : Addr} {x : Int} (h : w.cell? ad = some (.int .i64 x)) : RC w (some ad) (ivals [x]) := fun k hk => by
  obtain rfl : k = 0 := by simpa [ivals] using hk
  exact ⟨ad, rfl, by rw [show ad.add 0 = ad by unfold Addr.add; rfl]; exact h⟩

set_option maxRecDepth 100000 in
set_option maxHeartbeats 16000000 in
theorem graphPlans_tail (A : Option Addr) (n cap : Nat) (l : List Cg) (hn : l.length = n) (a : Nat) (ha : a < 256) (hpos : 0 < n) (hmay : mayC l = true) (hl : l.length ≤ 16) (hd : ∀ c ∈ l, c.p.data.length ≤ 300 ∧ c.needs.length ≤ 60) (w : World) (hr : RdL RdC w A 5 l) (HM : Calls Try.prog 8 #[.slice A n cap, .int .i64 16] w fun e w' => e = .returned (.bool false) ∧ w = w') :
    Calls Try.prog 5 #[.slice A n cap, .int .u8 (a : Int)] w fun e w' => e = .returned (.bool true) ∧ Below w.heap.size w w' := by
  have HM := Lib.hid HM
  have Hn := Lib.hid hn
  have Hr := Lib.hid hr
  have hn16 : n ≤ 16 := by omega
  have HD := Lib.hid hd
  have HN : Hid (∀ c ∈ l, c.needs.length ≤ 4096) := Lib.hid (fun c hc => by have := (hd c hc).2; omega)
  have HMy := Lib.hid (rmay_any A n cap l hn (by omega) HN.out w hr)
  rw [hmay] at HMy
  have HMay := Lib.hid hmay
  have d0 : ((n : Int) == 0) = false := by simp; omega
  have d1 : decide ((n : Int) = 0) = false := by simp; omega
  obtain ⟨k, hk⟩ : ∃ k, k = a % n := ⟨_, rfl⟩
  have hkn : k < n := by rw [hk]; exact Nat.mod_lt _ hpos
  have hkl : k < l.length := by omega
  have z1 : (k : Int) < n := by omega
  have q1 : Int.tmod (a : Int) (n : Int) = (k : Int) := by rw [hk]; exact (Int.ofNat_tmod a n).symm
  have q3 : (a : Int) % (n : Int) = (k : Int) := by rw [hk]; rfl
  have q4 : a % n = k := hk.symm
  clear hk
  have q2 : IntKind.i64.wrap (a : Int) = (a : Int) := by rw [IntKind.wrap_i64]; omega
  obtain ⟨ad, Ad, nd, cd, An, nn, cn, rfl, hcv, c0, c1, _, _, _⟩ := hr.cgk hkl
  have C0 := Lib.hid c0
  have HId0 : Hid (HasId l (cgA l k).id) := Lib.hid ⟨cgA l k, by rw [cgA_eq hkl]; exact List.getElem_mem _, rfl⟩
  obtain ⟨id, hid⟩ : ∃ id, (cgA l k).id = id := ⟨_, rfl⟩
  rw [hid] at C0 HId0
  have hal : (allC l id).length ≤ 16 := by have := allC_le_len l id; omega
  obtain ⟨hP0, hP1, hP2, hP3⟩ := planC_spec hmay HId0.out
  have HD4 : Hid (∀ c ∈ l, c.p.data.length ≤ 4096 ∧ c.needs.length ≤ 4096) := Lib.hid (fun c hc => by have := hd c hc; omega)
  obtain ⟨Z, hZ⟩ : ∃ Z, allC l id = Z := ⟨_, rfl⟩
  obtain ⟨P, hP⟩ : ∃ P, planC l id = P := ⟨_, rfl⟩
  have HZ := Lib.hid hZ
  have HP := Lib.hid hP
  have HPb : Hid (∀ z ∈ P, -9223372036854775808 ≤ z ∧ z < 9223372036854775808) := Lib.hid (fun z hz => block_fits hr (planC_mem (by rw [hP]; exact hz)))
  rw [hP, hZ] at hP1
  rw [hP] at hP0 hP2
  rw [hZ] at hal
  have hp0 : 0 < P.length := List.length_pos_iff.2 hP0
  have HP2 := Lib.hid (hasB_no hP2)
  have HP3 : Hid (∀ i, i < P.length → (findC (afterC l (P.take i)) id).isSome = true ∧ didB (afterC l (P.take i)) (afterC l (P.take (i + 1))) Z = true) := Lib.hid (fun i hi => by
    have h3 := hP3 i (by rw [hP]; exact hi)
    rw [hP, hZ] at h3
    exact ⟨findC_some.1 h3.1, didB_of h3.2⟩)
  clear hn hr hl hd hmay hcv c0 c1 hid hZ HId0 hP hP0 hP2 hP3
  go_enter Try.func5, Try.ntmps5
  go_wp2_with fail
  refine (HM.out).mono ?_; rintro e w2 ⟨rfl, rfl⟩
  go_wp2_with fail
  refine (HMy.out).mono ?_; rintro e w3 ⟨rfl, hb3⟩
  have Hw3 := Lib.hid hb3
  have k0 := (hb3.cell (block_lt_of_cell C0.out)).trans C0.out
  have k00 := cell_fld (i := 0) k0 (by rw [add_of_add]; exact k0)
  clear hb3
  go_wp2_with fail
  refine (to9_any (some ad) n cap l Hn.out (by omega) HD.out _ (Hr.out.below Hw3.out)).mono ?_; rintro e w4 ⟨A4, n4, c4, rfl, e4, q4', r4, hr4, hb4⟩
  have HX := Lib.hid e4
  have hn4 : n4 ≤ 16 := by have := Hn.out; omega
  have HrX := Lib.hid hr4
  have Hw4 := Lib.hid (bt Hw3.out hb4)
  clear e4 hr4 hb4 k0 k00
  go_wp2_with fail
  refine (gAll_any A4 n4 c4 l HX.out q4' (by omega) HN.out id _ HrX.out).mono ?_; rintro e w5 ⟨A5, n5, c5, rfl, e5, q5, r5, hr5, hb5⟩
  rw [HZ.out] at e5 hr5
  have Hi5 := Lib.hid hr5
  have He5 := Lib.hid e5
  have Hw5 := Lib.hid (bt Hw4.out hb5)
  have HrX5 := Lib.hid (HrX.out.below hb5)
  have hn5 : n5 ≤ 16 := by omega
  clear e5 hr5 hb5 HrX Hw4 Hw3
  go_wp2_with fail
  refine (gplan_any A4 n4 c4 l HX.out q4' (by omega) HN.out id _ HrX5.out).mono ?_; rintro e w6 ⟨A6, n6, c6, rfl, e6, q6, r6, hr6, hb6⟩
  rw [HP.out] at e6 hr6
  have Hp6 := Lib.hid hr6
  have He6 := Lib.hid e6
  have Hi6 := Lib.hid (Hi5.out.below hb6)
  have Hw6 := Lib.hid (bt Hw5.out hb6)
  have HrX6 := Lib.hid (HrX5.out.below hb6)
  have hn6 : n6 ≤ n5 := by have := He5.out; omega
  have hn60 : 0 < n6 := by omega
  have d2 : ((n6 : Int) == 0) = false := by simp; omega
  have d3 : decide ((n6 : Int) = 0) = false := by simp; omega
  have d4 : decide ((n5 : Int) < (n6 : Int)) = false := by simp; omega
  have d4n : decide (n5 < n6) = false := by simp; omega
  clear e6 hr6 hb6 HrX5 Hw5 Hi5 hP1 hp0
  go_wp2_with fail
  go_loopw [6, 9] (fun x i wr => ∃ (k : Nat) (A7 : Option Addr) (m c7 : Nat), k ≤ n6 ∧ i = .int .i64 k ∧ x = .slice A7 m c7 ∧ (afterC l (P.take k)).length = m ∧ m ≤ 16 ∧ RdL RdC wr A7 5 (afterC l (P.take k)) ∧ Below w6.heap.size w6 wr) (fun _ i _ => n6 - (intOf i).toNat)
  case atStart => exact ⟨0, A4, n4, c4, Nat.zero_le _, rfl, rfl, by rw [List.take_zero]; exact HX.out, hn4, by rw [List.take_zero]; exact HrX6.out, Below.refl _ _⟩
  case round =>
    obtain ⟨k, A7, m, c7, hk, rfl, rfl, hm7, hm16, hr7, hbw⟩ := hrel
    have Hm7 := Lib.hid hm7
    have Hr7 := Lib.hid hr7
    have Hbw := Lib.hid hbw
    clear hm7 hr7 hbw
    have HDL : Hid (∀ c ∈ afterC l (P.take k), c.p.data.length ≤ 4096 ∧ c.needs.length ≤ 4096) := Lib.hid (fun c hc => HD4.out c (after_mem _ _ c hc))
    by_cases hlt : k < n6
    · have d5 : decide ((k : Int) < n6) = true := by simpa using hlt
      have z2 : (k : Int) < n6 := by omega
      have hkP : k < P.length := by rw [He6.out]; exact hlt
      obtain ⟨h3, h4⟩ := HP3.out k hkP
      obtain ⟨k1, hk1⟩ : ∃ k1, k1 = k + 1 := ⟨_, rfl⟩
      have HM1 := Lib.hid (show afterC l (P.take k1) = afterC (afterC l (P.take k)) [P[k]] by rw [hk1, List.take_succ_eq_append_getElem hkP, after_snoc]; rfl)
      rw [← hk1] at h4
      have qk : IntKind.i64.wrap ((k : Int) + 1) = (k1 : Int) := by rw [IntKind.wrap_i64]; omega
      obtain ⟨a6, rfl, k0⟩ := (Hp6.out.below Hbw.out).int k hkP
      have K6 := Lib.hid k0
      have Hb := Lib.hid (HPb.out P[k] (List.getElem_mem hkP))
      have Hk1 := Lib.hid hk1
      clear k0 hk1
      generalize P[k] = b at *
      obtain ⟨M, hM⟩ : ∃ M, afterC l (P.take k1) = M := ⟨_, rfl⟩
      rw [hM] at HM1 h4
      have HMM := Lib.hid hM
      have H3 := Lib.hid h3
      have H4 := Lib.hid h4
      have HDM : Hid (∀ c ∈ M, c.p.data.length ≤ 4096 ∧ c.needs.length ≤ 4096) := Lib.hid (fun c hc => HD4.out c (after_mem _ _ c (by rw [HMM.out]; exact hc)))
      clear h3 h4 hM
      generalize afterC l (P.take k) = L at *
      go_wp2_with fail
      refine (pfind_is A7 m c7 L Hm7.out (by omega) HDL.out id true H3.out _ Hr7.out).mono ?_; rintro e w7 ⟨x0, x1, x2, Af, nf, cf, Ag, ng, cg, rfl, hbf⟩
      go_wp2_with (refine wpList_alloc_row rfl _ rfl _ Try.chgZero ?_)
      apply Stop.go; intro wa Hga Hba
      go_wp2_with (refine wpList_store_arr rfl _ _ _ rfl _ #[.int .i64 x0, .int .i64 x1, .int .i64 x2, .slice Af nf cf, .slice Ag ng cg] rfl rfl _ _ Hba.out Try.chgSize rfl (by simp [Value.oneCell']) ?_)
      apply Stop.go; intro w8 Hoa Hbb
      have D8 := Lib.hid (bonly (bt (bt (Below.refl _ wr) hbf) Hga.out.1) Hoa.out (bt (Below.refl _ wr) hbf).size)
      have Hbw8 := Lib.hid (bt Hbw.out D8.out)
      clear hbf Hga Hba Hoa Hbb
      go_wp2_with (refine wpList_slice_ad rfl _ _ _ _ rfl _ Try.underlying28 Try.intSize11 _ _ _ rfl _ _ _ _ rfl rfl k k1 rfl rfl (by have := Hk1.out; omega) (by have := Hk1.out; omega) (by omega) ?_)
      go_wp2_with fail
      refine (gafter_any A7 m c7 L Hm7.out (by omega) HDL.out (some (a6.add k)) (k1 - k) (c6 - k) [b] (by have := Hk1.out; simp; omega) (fun z hz => by obtain rfl := List.mem_singleton.1 hz; exact Hb.out) (by have := Hk1.out; omega) _ (Hr7.out.below D8.out) (RC.part1 ((D8.out.cell (block_lt_of_cell K6.out)).trans K6.out))).mono ?_; rintro e w10 ⟨A10, n10, c10, rfl, e10, q10, r10, hr10, hb10⟩
      have hn10 : n10 ≤ 16 := by rw [← e10]; have := after_len L [b]; have := Hm7.out; omega
      rw [← HM1.out] at e10 hr10
      have He10 := Lib.hid e10
      have Hr10 := Lib.hid hr10
      have D10 := Lib.hid (bt D8.out hb10)
      have Hbw10 := Lib.hid (bt Hbw8.out hb10)
      have Hr7' := Lib.hid (Hr7.out.below D10.out)
      clear e10 hr10 hb10 D8 Hbw8 Hr7 K6 D10
      obtain ⟨wL, hwL⟩ : ∃ x, x = wr := ⟨_, rfl⟩
      subst hwL
      go_wp2_with fail
      go_loopw [13, 14] (fun d j wr => ∃ (q : Nat) (D : Bool), q ≤ n5 ∧ j = .int .i64 q ∧ .bool D = d ∧ didB L M (Z.take q) = D ∧ Below w10.heap.size w10 wr) (fun _ j _ => n5 - (intOf j).toNat)
      case atStart => exact ⟨0, false, Nat.zero_le _, rfl, rfl, rfl, Below.refl _ _⟩
      case round =>
        obtain ⟨q, D, hq, rfl, rfl, hD, hbq⟩ := hrel
        have HD1 := Lib.hid hD
        have Hbq := Lib.hid hbq
        clear hD hbq
        by_cases hlt2 : q < n5
        · have d6 : decide ((q : Int) < n5) = true := by simpa using hlt2
          have z3 : (q : Int) < n5 := by omega
          have hqZ : q < Z.length := by rw [He5.out]; exact hlt2
          obtain ⟨a5, rfl, k0⟩ := (Hi6.out.below (bt Hbw10.out Hbq.out)).int q hqZ
          have K1 := Lib.hid k0
          have HT : Hid (didB L M (Z.take (q + 1)) = (D || ((findC L Z[q]).isSome && !(findC M Z[q]).isSome))) := Lib.hid (by rw [List.take_succ_eq_append_getElem hqZ, didB_snoc, HD1.out])
          generalize Z[q] = y at *
          obtain ⟨b1, hb1⟩ : ∃ b1, (findC L y).isSome = b1 := ⟨_, rfl⟩
          obtain ⟨b2, hb2⟩ : ∃ b2, (findC M y).isSome = b2 := ⟨_, rfl⟩
          rw [hb1, hb2] at HT
          have HB1 := Lib.hid hb1
          have HB2 := Lib.hid hb2
          clear hb1 hb2
          go_wp2_with fail
          refine (pfind_is A7 m c7 L Hm7.out (by omega) HDL.out y b1 HB1.out _ (Hr7'.out.below Hbq.out)).mono ?_; rintro e w11 ⟨x0, x1, x2, Af, nf, cf, Ag, ng, cg, rfl, hbf⟩
          go_wp2_with (refine wpList_alloc_row rfl _ rfl _ Try.chgZero ?_)
          apply Stop.go; intro wa Hga Hba
          go_wp2_with (refine wpList_store_arr rfl _ _ _ rfl _ #[.int .i64 x0, .int .i64 x1, .int .i64 x2, .slice Af nf cf, .slice Ag ng cg] rfl rfl _ _ Hba.out Try.chgSize rfl (by simp [Value.oneCell']) ?_)
          apply Stop.go; intro w12 Hoa Hbb
          have D12 := Lib.hid (bonly (bt (bt (Below.refl _ wr) hbf) Hga.out.1) Hoa.out (bt (Below.refl _ wr) hbf).size)
          have Hbq2 := Lib.hid (bt Hbq.out D12.out)
          clear hbf Hga Hba Hoa Hbb
          have k0 := (D12.out.cell (block_lt_of_cell K1.out)).trans K1.out
          go_wp2_with fail
          refine (pfind_is A10 n10 c10 M He10.out (by omega) HDM.out y b2 HB2.out _ (Hr10.out.below Hbq2.out)).mono ?_; rintro e w13 ⟨x0, x1, x2, Af, nf, cf, Ag, ng, cg, rfl, hbf⟩
          go_wp2_with (refine wpList_alloc_row rfl _ rfl _ Try.chgZero ?_)
          apply Stop.go; intro wa Hga Hba
          go_wp2_with (refine wpList_store_arr rfl _ _ _ rfl _ #[.int .i64 x0, .int .i64 x1, .int .i64 x2, .slice Af nf cf, .slice Ag ng cg] rfl rfl _ _ Hba.out Try.chgSize rfl (by simp [Value.oneCell']) ?_)
          apply Stop.go; intro w14 Hoa Hbb
          have D14 := Lib.hid (bonly (bt (bt D12.out hbf) Hga.out.1) Hoa.out (bt D12.out hbf).size)
          have Hbq4 := Lib.hid (bt Hbq.out D14.out)
          clear hbf Hga Hba Hoa Hbb
          clear k0
          cases D <;> cases b1 <;> cases b2 <;> (
            go_wp2_with fail
            go_roundw
            case rel => exact ⟨q + 1, _, by omega, by go_num, rfl, HT.out, Hbq4.out⟩
            case measure => simp [intOf]; omega)
        · have d6 : decide ((q : Int) < n5) = false := by simpa using hlt2
          have hqe : q = n5 := by omega
          have hDt : D = true := by
            have h1 := HD1.out
            rw [hqe, ← He5.out, List.take_length, H4.out] at h1
            exact h1.symm
          clear hqe
          subst hDt
          go_wp2_with fail
          go_roundw
          case rel => exact ⟨k1, A10, n10, c10, by have := Hk1.out; omega, rfl, rfl, by rw [HMM.out]; exact He10.out, hn10, by rw [HMM.out]; exact Hr10.out.below Hbq.out, bt Hbw10.out Hbq.out⟩
          case measure => simp [intOf]; have := Hk1.out; omega
    · have d5 : decide ((k : Int) < n6) = false := by simpa using hlt
      have hke : k = n6 := by omega
      subst hke
      have HPe : Hid (P.take k = P) := Lib.hid (by rw [← He6.out]; exact List.take_length)
      rw [HPe.out] at Hm7 Hr7 HDL
      go_wp2_with fail
      refine (pfind_is A7 m c7 (afterC l P) Hm7.out (by omega) HDL.out id false HP2.out _ Hr7.out).mono ?_; rintro e w7 ⟨x0, x1, x2, Af, nf, cf, Ag, ng, cg, rfl, hbf⟩
      go_wp2_with (refine wpList_alloc_row rfl _ rfl _ Try.chgZero ?_)
      apply Stop.go; intro wa Hga Hba
      go_wp2_with (refine wpList_store_arr rfl _ _ _ rfl _ #[.int .i64 x0, .int .i64 x1, .int .i64 x2, .slice Af nf cf, .slice Ag ng cg] rfl rfl _ _ Hba.out Try.chgSize rfl (by simp [Value.oneCell']) ?_)
      apply Stop.go; intro w8 Hoa Hbb
      have D8 := Lib.hid (bonly (bt (bt (Below.refl _ wr) hbf) Hga.out.1) Hoa.out (bt (Below.refl _ wr) hbf).size)
      have Hbw8 := Lib.hid (bt Hbw.out D8.out)
      clear hbf Hga Hba Hoa Hbb
      go_wp2_with fail
      refine (works11_any _).mono ?_; rintro e w9 ⟨rfl, hb9⟩
      go_wp2_with fail
      go_ret
      exact ⟨rfl, bt (bt Hw6.out Hbw8.out) hb9⟩

set_option maxRecDepth 100000 in
set_option maxHeartbeats 4000000 in
theorem graphPlans_any (A : Option Addr) (n cap : Nat) (l : List Cg) (hn : l.length = n) (hcap : n ≤ cap) (hm : cap ≤ maxLen) (a : Nat) (ha : a < 256) (w : World) (hr : RdL RdC w A 5 l) :
    Calls Try.prog 5 #[.slice A n cap, .int .u8 (a : Int)] w fun e w' => e = .returned (.bool true) ∧ Below w.heap.size w w' := by
  have HM := Lib.hid (rmuchc_any 16 (by decide) A n cap l hn (Nat.le_trans hcap hm) w hr)
  cases hmu : muchC l 16
  · rw [hmu] at HM
    obtain ⟨hl, hd⟩ := muchC_no hmu
    have HMy := Lib.hid (rmay_any A n cap l hn (by omega) (fun c hc => by have := (hd c hc).2; omega) w hr)
    cases hmay : mayC l
    · rw [hmay] at HMy
      clear hr hn hl hd hmu hmay ha
      go_enter Try.func5, Try.ntmps5
      go_wp2_with fail
      refine (HM.out).mono ?_; rintro e w2 ⟨rfl, rfl⟩
      go_wp2_with fail
      refine (HMy.out).mono ?_; rintro e w3 ⟨rfl, hb3⟩
      have Hw3 := Lib.hid hb3
      clear hb3
      go_wp2_with fail
      refine (works11_any _).mono ?_; rintro e w4 ⟨rfl, hb4⟩
      go_wp2_with fail
      go_ret
      exact ⟨rfl, bt Hw3.out hb4⟩
    · by_cases hpos : 0 < n
      · exact graphPlans_tail A n cap l hn a ha hpos hmay hl hd w hr HM.out
      · have hn0 : n = 0 := by omega
        rw [hmay] at HMy
        subst hn0
        clear hr hn hl hd hmu hmay ha hpos
        go_enter Try.func5, Try.ntmps5
        go_wp2_with fail
        refine (HM.out).mono ?_; rintro e w2 ⟨rfl, rfl⟩
        go_wp2_with fail
        refine (HMy.out).mono ?_; rintro e w3 ⟨rfl, hb3⟩
        have Hw3 := Lib.hid hb3
        clear hb3
        go_wp2_with fail
        refine (works11_any _).mono ?_; rintro e w4 ⟨rfl, hb4⟩
        go_wp2_with fail
        go_ret
        exact ⟨rfl, bt Hw3.out hb4⟩
  · rw [hmu] at HM
    clear hr hn hmu ha
    go_enter Try.func5, Try.ntmps5
    go_wp2_with fail
    refine (HM.out).mono ?_; rintro e w2 ⟨rfl, rfl⟩
    go_wp2_with fail
    refine (works11_any _).mono ?_; rintro e w3 ⟨rfl, hb3⟩
    go_wp2_with fail
    go_ret
    exact ⟨rfl, hb3⟩

end Go.Proofs.Ytmcinaigkjfehaa
