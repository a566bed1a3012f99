/-
  The walk of CacheNils.
-/
import Derived.Test.YtknbjdldmednlaaLw12w
namespace Go.Proofs.Ytknbjdldmednlaa
open Go.RowKit

theorem DC.Ok.bd_len {x : DC} (h : x.Ok) (k : Int) : (x.bd k).length = 256 := by
  unfold DC.bd
  split
  · rw [List.getD_eq_getElem?_getD]
    by_cases hk : k.toNat < x.base.length
    · rw [List.getElem?_eq_getElem hk]; exact h.bks _ (List.getElem_mem hk)
    · rw [List.getElem?_eq_none (by omega)]; exact zeros_len 256
  · exact zeros_len 256
theorem DC.Ok.view_len {x : DC} (h : x.Ok) (k : Int) : (viewC (x.bd k) x.list k).length = 256 := by
  unfold viewC
  split
  · exact laidC_len _ (h.bd_len k)
  · exact h.bd_len k
theorem DC.Ok.got_len {x : DC} (h : x.Ok) (k : Int) : (if x.knownE k = 0 then viewC (x.bd k) x.list k else zeros 256).length = 256 := by
  split
  · exact h.view_len k
  · exact zeros_len 256
theorem new_kn (k : Int) : (DC.new 16).kn k = false := by
  have h := Sim.new.kn k
  rw [← h]
  rfl
theorem new_knE (k : Int) : (DC.new 16).knownE k = if 0 ≤ k ∧ k < 16 then 0 else 2 := by
  unfold DC.knownE
  rw [new_kn]
  have h0 : (DC.new 16).off = false := rfl
  rw [h0]
  by_cases h : 0 ≤ k ∧ k < 16
  · have h1 : (DC.new 16).has k = true := DC.has_iff.2 ⟨h.1, h.2⟩
    rw [if_pos h, h1]
    rfl
  · have h1 : (DC.new 16).has k = false := by
      cases e : (DC.new 16).has k
      · rfl
      · exact absurd (DC.has_iff.1 e) h
    rw [if_neg h, h1]
    rfl
/-- What the law puts. -/
def xn (no : Int) : StC := ⟨0, no, ⟨0, [1]⟩, []⟩
theorem new_put_in {no : Int} (h : 0 ≤ no ∧ no < 16) : ((DC.new 16).known no).putN (xn no) = 1 ∧ ((DC.new 16).known no).putE (xn no) = 0 ∧ (((DC.new 16).known no).put (xn no)).last = 1 := by
  have hk : (DC.new 16).knownE no = 0 := by rw [new_knE, if_pos h]
  have h1 := (DC.known_kn hk no).trans (if_pos rfl)
  have hl : ((DC.new 16).known no).last = 0 := ((DC.new 16).known_fields no).2.2.1
  have hE : ((DC.new 16).known no).putE (xn no) = 0 := by
    unfold DC.putE DC.knownE
    rw [show (xn no).no = no from rfl, h1]
    rfl
  refine ⟨?_, hE, ?_⟩
  · unfold DC.putN
    rw [if_pos hE, hl]
    rfl
  · unfold DC.put
    rw [if_pos hE]
    show ((DC.new 16).known no).last + 1 = 1
    rw [hl]
theorem new_put_out {no : Int} (h : ¬ (0 ≤ no ∧ no < 16)) : (DC.new 16).known no = DC.new 16 ∧ (DC.new 16).putN (xn no) = 0 ∧ (DC.new 16).putE (xn no) = 2 ∧ (DC.new 16).put (xn no) = DC.new 16 := by
  have hk : (DC.new 16).knownE no = 2 := by rw [new_knE, if_neg h]
  have hE : (DC.new 16).putE (xn no) = 2 := by
    unfold DC.putE
    rw [show (xn no).no = no from rfl, hk]
    rfl
  refine ⟨by unfold DC.known; rw [if_neg (by rw [hk]; decide)], ?_, hE, DC.put_no (by rw [hE]; decide)⟩
  unfold DC.putN
  rw [if_neg (by rw [hE]; decide)]
theorem idxp_nil (w : World) (b : Nat) (t : TypeId) (hb : Blk w b t #[.pointer none]) (ad : Addr) (c : Nat) (x : Int) (hc : w.cell? ad = some (.int .i64 x)) :
    Calls Try.prog 46 #[.slice (some ad) 1 c, .func (.func 29) #[] #[.pointer (some ⟨b, 0, none⟩)]] w fun e w' => e = .returned (.int .i64 0) ∧ w' = w := by
  have Hb := Lib.hid hb
  clear hb
  go_enter Try.func46, Try.ntmps46
  go_wp2_with fail
  go_loop [8] (fun i => i = .int .i64 0) (fun _ => 0)
  case atStart => rfl
  case round =>
    obtain rfl := hrel
    go_wp2_with fail
    refine (put1_nil _ b t Hb.out x).mono ?_; rintro e w2 ⟨rfl, rfl⟩
    go_wp2_with fail
    go_ret
    exact ⟨rfl, rfl⟩
theorem conp_nil (w : World) (b : Nat) (t : TypeId) (hb : Blk w b t #[.pointer none]) (ad : Addr) (c : Nat) (x : Int) (hc : w.cell? ad = some (.int .i64 x)) :
    Calls Try.prog 28 #[.slice (some ad) 1 c, .func (.func 29) #[] #[.pointer (some ⟨b, 0, none⟩)]] w fun e w' => e = .returned (.bool true) ∧ w' = w := by
  have HC := Lib.hid (idxp_nil w b t hb ad c x hc)
  clear hb hc
  go_enter Try.func28, Try.ntmps28
  go_wp2_with fail
  refine (HC.out).mono ?_; rintro e w2 ⟨rfl, rfl⟩
  go_wp2_with fail
  go_ret
  exact ⟨rfl, rfl⟩
theorem put_nil (no : Int) (p : Pt) (hpr : p.right = true) (Ap : Option Addr) (np cp : Nat) (ad : Addr) (cn : Nat) (id : Int) (w : World) (hp : PV w p Ap np cp) (hc : w.cell? ad = some (.int .i64 id)) :
    Calls Try.prog 8 #[.pointer none, .int .i64 no, .agg #[.int .i64 p.at_, .slice Ap np cp], .slice (some ad) 1 cn] w fun e w' => e = .returned (.tuple #[.int .i64 0, .int .i64 1]) ∧ Below w.heap.size w w' := by
  have Hp := Lib.hid hp
  have HC := Lib.hid hc
  have hck : checkI p = 0 := by unfold checkI; rw [hpr]; rfl
  clear hp hc
  go_enter Try.func8, Try.ntmps8
  go_wp2_with (refine wpList_box_ptr rfl _ _ rfl _ rfl ?_)
  apply Stop.go; intro w1 Hg1 Hb1
  go_wp2_with (refine wpList_box_row rfl _ _ rfl _ rfl ?_)
  apply Stop.go; intro w2 Hg2 Hb2
  have E2 := Lib.hid (bt Hg1.out.1 Hg2.out.1)
  have B1 := Lib.hid (Hb1.out.ext Hg2.out.1)
  go_wp2_with (refine wpList_load_blk rfl _ _ rfl _ rfl _ _ Hb2.out _ Try.underlying25 rfl Try.patSize ?_)
  refine (check_any p Ap np cp _ (Hp.out.below E2.out)).mono ?_; rintro e w3 ⟨rfl, hb3⟩
  have B3 := Lib.hid (B1.out.ext hb3)
  have E3 := Lib.hid (bt E2.out hb3)
  have c3 := cell_ext E3.out HC.out
  rw [hck]
  clear hb3 hck
  go_wp2_with fail
  refine (conp_nil w3 w.heap.size _ B3.out ad cn id c3).mono ?_; rintro e w4 ⟨rfl, rfl⟩
  go_wp2_with fail
  go_ret2
  exact ⟨rfl, E3.out⟩
set_option maxRecDepth 100000 in
set_option maxHeartbeats 8000000 in
theorem cacheNils_any (no id : Int) (n1 : -9223372036854775808 ≤ no) (n2 : no < 9223372036854775808) (_i1 : -9223372036854775808 ≤ id) (_i2 : id < 9223372036854775808) (w : World) :
    Calls Try.prog 3 #[.int .i64 no, .int .i64 id] w fun e w' => e = .returned (.bool true) ∧ Below w.heap.size w w' := by
  go_enter Try.func3, Try.ntmps3
  go_wp2_with (refine wpList_build_one1 rfl _ _ _ rfl Try.underlying23 1 _ Try.byteInfo (.int .u8 1) rfl rfl rfl ?_)
  apply Stop.go; intro w1 Hg1 Hb1
  go_wp2_with (refine wpList_alloc_row rfl _ rfl _ Try.patchZero ?_)
  apply Stop.go; intro w2 Hg2 Hb2
  go_wp2_with (refine wpList_store_arr rfl _ _ _ rfl _ #[.int .i64 0, .slice (some ⟨w.heap.size, 0, none⟩) 1 1] rfl rfl _ _ Hb2.out Try.patchSize rfl (by simp [Value.oneCell']) ?_)
  apply Stop.go; intro w3 Ho3 Hb3
  have X3 := Lib.hid ((Hb1.out.ext Hg2.out.1).only Ho3.out (by have := Hg1.out.2; omega))
  have B3 := Lib.hid (bonly (bt Hg1.out.1 Hg2.out.1) Ho3.out Hg1.out.1.size)
  have pv : ∀ w' : World, Blk w' w.heap.size 5 #[.int .u8 1] → PV w' ⟨0, [1]⟩ (some ⟨w.heap.size, 0, none⟩) 1 1 := fun w' h => ⟨by decide, by decide, rfl, Nat.le_refl _, by unfold maxLen; omega, RB.of_blk1 h⟩
  have HW1 := Lib.hid Hg1.out.2
  have HW1 := Lib.hid Hg1.out.2
  clear Hb1 Hb2 Hg1 Hg2 Ho3
  go_wp2_with fail
  refine (get_nil no _).mono ?_; rintro e w4 ⟨rfl, hb4⟩
  have B4 := Lib.hid (bt B3.out hb4)
  have X4 := Lib.hid (X3.out.ext hb4)
  have Y4 := Lib.hid (Hb3.out.ext hb4)
  clear hb4 X3 Hb3 B3
  go_wp2_with (refine wpList_alloc_row rfl _ rfl _ Try.blockZero ?_)
  apply Stop.go; intro w5 Hg5 Hb5
  go_wp2_with (refine wpList_store_arr rfl _ _ _ rfl _ (bcells (zeros 256)) rfl rfl _ _ Hb5.out (Try.blockFits (zeros_len 256)) rfl (oneCell_bcells _) ?_)
  apply Stop.go; intro w6 Ho6 Hb6
  have B6 := Lib.hid (bonly (bt B4.out Hg5.out.1) Ho6.out B4.out.size)
  have X6 := Lib.hid ((X4.out.ext Hg5.out.1).only Ho6.out (Nat.ne_of_lt X4.out.lt))
  have Y6 := Lib.hid ((Y4.out.ext Hg5.out.1).only Ho6.out (Nat.ne_of_lt Y4.out.lt))
  clear B4 X4 Y4 Hg5 Hb5 Ho6 Hb6
  go_wp2_with (first | refine wpList_load_blk rfl _ _ rfl _ rfl _ _ Y6.out _ Try.underlying25 rfl Try.patchSize ?_ | refine wpList_build_one1 rfl _ _ _ rfl Try.underlying38 8 _ Try.infoInt (.int .i64 id) rfl rfl rfl ?_)
  apply Stop.go; intro w7 Hg7 Hb7
  have B7 := Lib.hid (bt B6.out Hg7.out.1)
  have X7 := Lib.hid (X6.out.ext Hg7.out.1)
  have Y7 := Lib.hid (Y6.out.ext Hg7.out.1)
  have CP := put_nil no ⟨0, [1]⟩ (by decide) _ 1 1 ⟨w6.heap.size, 0, none⟩ 1 id w7 (pv _ X7.out) (Hb7.out.cell 0)
  clear B6 X6 Y6 Hg7 Hb7
  go_wp2_with fail
  refine (CP).mono ?_; rintro e w8 ⟨rfl, hb8⟩
  have B8 := Lib.hid (bt B7.out hb8)
  have X8 := Lib.hid (X7.out.ext hb8)
  have Y8 := Lib.hid (Y7.out.ext hb8)
  clear hb8 CP B7 X7 Y7
  go_wp2_with fail
  refine (flush_nil no _).mono ?_; rintro e w9 ⟨rfl, rfl⟩
  go_wp2_with fail
  refine (upto_nil id _).mono ?_; rintro e w9 ⟨rfl, rfl⟩
  go_wp2_with fail
  refine (sync_nil _).mono ?_; rintro e w9 ⟨rfl, rfl⟩
  go_wp2_with fail
  refine (done_nil id _).mono ?_; rintro e w9 ⟨rfl, rfl⟩
  go_wp2_with fail
  refine (left_nil _).mono ?_; rintro e w9 ⟨rfl, rfl⟩
  go_wp2_with fail
  refine (dirty_nil _).mono ?_; rintro e w9 ⟨rfl, rfl⟩
  go_wp2_with fail
  refine (last_nil _).mono ?_; rintro e w9 ⟨rfl, rfl⟩
  go_wp2_with fail
  refine (cnew_nil _).mono ?_; rintro e w9 ⟨rfl, rfl⟩
  go_wp2_with fail
  refine (dnew_any 16 (by omega) (by omega) _).mono ?_; rintro e w10 ⟨b, g, rfl, hb10, hg10, hd10, hbw10⟩
  have D10 := Lib.hid hd10
  have B10 := Lib.hid (bt B8.out hbw10)
  have X10 := Lib.hid (X8.out.ext hbw10)
  have Y10 := Lib.hid (Y8.out.ext hbw10)
  have L10 := Lib.hid (show w.heap.size < b ∧ w.heap.size < g ∧ w1.heap.size < b ∧ w1.heap.size < g ∧ w.heap.size < w1.heap.size from by
    have h1 := X8.out.lt
    have h2 := Y8.out.lt
    have h3 := HW1.out
    omega)
  clear hb10 hg10 hd10 hbw10 B8 X8 Y8
  go_wp2_with fail
  refine (c_new b g w10 D10.out).mono ?_; rintro e w11 ⟨ro, c, rfl, hc11, ht11⟩
  have rd : ∀ k, k ≠ b → k ≠ g → roD b g k = none := fun k h1 h2 => if_neg (fun h => h.elim h1 h2)
  have lo : Std w w10 (roD b g) := ⟨B10.out, fun k r hk => by
    unfold roD at hk
    by_cases e : k = b ∨ k = g
    · have := L10.out; omega
    · rw [if_neg e] at hk; cases hk⟩
  have C11 := Lib.hid hc11
  have S11 := Lib.hid (lo.tr ht11)
  have r0 := rd w.heap.size (by have := L10.out; omega) (by have := L10.out; omega)
  have r1 := rd w1.heap.size (by have := L10.out; omega) (by have := L10.out; omega)
  have X11 := Lib.hid (X10.out.tr ht11 r0)
  have Y11 := Lib.hid (Y10.out.tr ht11 r1)
  have NX := Lib.hid (ht11.keep _ X10.out.lt r0).1
  have NY := Lib.hid (ht11.keep _ Y10.out.lt r1).1
  have ML := C11.out.ok.got_len no
  have CG := c_get C11.out (by omega) no n1 n2
  obtain ⟨M, hM⟩ : ∃ M, (if (DC.new 16).knownE no = 0 then viewC ((DC.new 16).bd no) (DC.new 16).list no else zeros 256) = M := ⟨_, rfl⟩
  rw [hM] at CG ML
  have HML := Lib.hid ML
  rw [new_knE] at CG
  clear hc11 ht11 rd lo r0 r1 hM ML D10 B10 X10 Y10
  by_cases hin : 0 ≤ no ∧ no < 16
  · obtain ⟨q1, q2, q3⟩ := new_put_in hin
    rw [if_pos hin] at CG
    have d1 : decide (0 ≤ no) = true := by simpa using hin.1
    have d2 : decide (no < 16) = true := by simpa using hin.2
    have Q := Lib.hid (And.intro q1 (And.intro q2 q3))
    obtain ⟨y, hy⟩ : ∃ y, (DC.new 16).known no = y := ⟨_, rfl⟩
    rw [hy] at CG Q
    clear q1 q2 q3 hin hy
    go_wp2_with fail
    refine (CG).mono ?_; rintro e w12 ⟨rfl, ro12, hc12, ht12⟩
    have C12 := Lib.hid hc12
    have S12 := Lib.hid (S11.out.tr ht12)
    have X12 := Lib.hid (X11.out.tr ht12 NX.out)
    have Y12 := Lib.hid (Y11.out.tr ht12 NY.out)
    have NX12 := Lib.hid (ht12.keep _ X11.out.lt NX.out).1
    clear hc12 ht12 CG C11 S11 X11 Y11 NX NY
    go_wp2_with (refine wpList_alloc_row rfl _ rfl _ Try.blockZero ?_)
    apply Stop.go; intro w13 Hg13 Hb13
    go_wp2_with (refine wpList_store_arr rfl _ _ _ rfl _ (bcells M) rfl rfl _ _ Hb13.out (Try.blockFits HML.out) (by rw [bcells_size, bcells_size, HML.out, zeros_len]) (oneCell_bcells _) ?_)
    apply Stop.go; intro w14 Ho14 Hb14
    have C14 := Lib.hid ((C12.out.ext Hg13.out.1).only_none Ho14.out (C12.out.none_ge (Nat.le_refl _)))
    have S14 := Lib.hid ((S12.out.ext Hg13.out.1).only Ho14.out S12.out.bel.size)
    have X14 := Lib.hid ((X12.out.ext Hg13.out.1).only Ho14.out (Nat.ne_of_lt X12.out.lt))
    have Y14 := Lib.hid ((Y12.out.ext Hg13.out.1).only Ho14.out (Nat.ne_of_lt Y12.out.lt))
    clear C12 S12 X12 Y12 Hg13 Hb13 Ho14 Hb14
    have CP := c_put C14.out (by omega) no n1 n2 ⟨0, [1]⟩ _ 1 1 (pv _ X14.out) none 0 0 [] rfl (by omega) (RC.nil_ _ _) (fun y hy => (by cases hy)) (fun ad e => by injection e with e; subst e; exact NX12.out) (fun _ ad e => by cases e)
    rw [show (⟨0, no, ⟨0, [1]⟩, []⟩ : StC) = xn no from rfl, Q.out.1, Q.out.2.1] at CP
    go_wp2_with (refine wpList_load_blk rfl _ _ rfl _ rfl _ _ Y14.out _ Try.underlying25 rfl Try.patchSize ?_)
    refine (CP).mono ?_; rintro e w15 ⟨rfl, ro15, hc15, ht15⟩
    have C15 := Lib.hid hc15
    have S15 := Lib.hid (S14.out.tr ht15)
    clear hc15 ht15 CP C14 S14 X14 Y14 NX12
    have CL := c_last C15.out

    rw [Q.out.2.2] at CL
    go_wp2_with fail
    refine (CL).mono ?_; rintro e w16 ⟨rfl, rfl⟩
    go_wp2_with fail
    refine (works12_any _).mono ?_; rintro e w17 ⟨rfl, hb17⟩
    have B17 := Lib.hid (S15.out.ext hb17).bel
    clear hb17 CL
    go_wp2_with fail
    go_ret
    exact ⟨rfl, B17.out⟩
  · obtain ⟨q1, q2, q3, q4⟩ := new_put_out hin
    rw [if_neg hin, q1] at CG
    have Q := Lib.hid (And.intro q2 (And.intro q3 q4))
    have QF : Hid ((DC.new 16).flushE no = 0) := Lib.hid rfl
    have QL : Hid ((DC.new 16).last = 0) := Lib.hid rfl
    obtain ⟨y, hy⟩ : ∃ y, DC.new 16 = y := ⟨_, rfl⟩
    rw [hy] at CG Q QF QL
    clear q1 q2 q3 q4 hy
    by_cases h0 : 0 ≤ no
    · have d1 : decide (0 ≤ no) = true := by simpa using h0
      have d2 : decide (no < 16) = false := by
        rw [decide_eq_false_iff_not]; omega
      clear hin h0
      go_wp2_with fail
      refine (CG).mono ?_; rintro e w12 ⟨rfl, ro12, hc12, ht12⟩
      have C12 := Lib.hid hc12
      have S12 := Lib.hid (S11.out.tr ht12)
      have X12 := Lib.hid (X11.out.tr ht12 NX.out)
      have Y12 := Lib.hid (Y11.out.tr ht12 NY.out)
      have NX12 := Lib.hid (ht12.keep _ X11.out.lt NX.out).1
      clear hc12 ht12 CG C11 S11 X11 Y11 NX NY
      go_wp2_with (refine wpList_alloc_row rfl _ rfl _ Try.blockZero ?_)
      apply Stop.go; intro w13 Hg13 Hb13
      go_wp2_with (refine wpList_store_arr rfl _ _ _ rfl _ (bcells M) rfl rfl _ _ Hb13.out (Try.blockFits HML.out) (by rw [bcells_size, bcells_size, HML.out, zeros_len]) (oneCell_bcells _) ?_)
      apply Stop.go; intro w14 Ho14 Hb14
      have C14 := Lib.hid ((C12.out.ext Hg13.out.1).only_none Ho14.out (C12.out.none_ge (Nat.le_refl _)))
      have S14 := Lib.hid ((S12.out.ext Hg13.out.1).only Ho14.out S12.out.bel.size)
      have X14 := Lib.hid ((X12.out.ext Hg13.out.1).only Ho14.out (Nat.ne_of_lt X12.out.lt))
      have Y14 := Lib.hid ((Y12.out.ext Hg13.out.1).only Ho14.out (Nat.ne_of_lt Y12.out.lt))
      clear C12 S12 X12 Y12 Hg13 Hb13 Ho14 Hb14
      have CP := c_put C14.out (by omega) no n1 n2 ⟨0, [1]⟩ _ 1 1 (pv _ X14.out) none 0 0 [] rfl (by omega) (RC.nil_ _ _) (fun y hy => (by cases hy)) (fun ad e => by injection e with e; subst e; exact NX12.out) (fun _ ad e => by cases e)
      rw [show (⟨0, no, ⟨0, [1]⟩, []⟩ : StC) = xn no from rfl, Q.out.1, Q.out.2.1] at CP
      go_wp2_with (refine wpList_load_blk rfl _ _ rfl _ rfl _ _ Y14.out _ Try.underlying25 rfl Try.patchSize ?_)
      refine (CP).mono ?_; rintro e w15 ⟨rfl, ro15, hc15, ht15⟩
      have C15 := Lib.hid hc15
      have S15 := Lib.hid (S14.out.tr ht15)
      clear hc15 ht15 CP C14 S14 X14 Y14 NX12
      have CL := c_last C15.out

      rw [Q.out.2.2, QL.out] at CL
      have CF := c_flush C15.out (by omega) no n1 n2
      rw [Q.out.2.2, QF.out] at CF
      go_wp2_with fail
      refine (CL).mono ?_; rintro e w16 ⟨rfl, rfl⟩
      go_wp2_with fail
      refine (CF).mono ?_; rintro e w17 ⟨rfl, ro17, hc17, ht17⟩
      have S17 := Lib.hid (S15.out.tr ht17)
      clear hc17 ht17 CL CF
      go_wp2_with fail
      refine (works12_any _).mono ?_; rintro e w18 ⟨rfl, hb18⟩
      have B18 := Lib.hid (S17.out.ext hb18).bel
      clear hb18
      go_wp2_with fail
      go_ret
      exact ⟨rfl, B18.out⟩
    · have d1 : decide (0 ≤ no) = false := by simpa using h0
      clear hin h0
      go_wp2_with fail
      refine (CG).mono ?_; rintro e w12 ⟨rfl, ro12, hc12, ht12⟩
      have C12 := Lib.hid hc12
      have S12 := Lib.hid (S11.out.tr ht12)
      have X12 := Lib.hid (X11.out.tr ht12 NX.out)
      have Y12 := Lib.hid (Y11.out.tr ht12 NY.out)
      have NX12 := Lib.hid (ht12.keep _ X11.out.lt NX.out).1
      clear hc12 ht12 CG C11 S11 X11 Y11 NX NY
      go_wp2_with (refine wpList_alloc_row rfl _ rfl _ Try.blockZero ?_)
      apply Stop.go; intro w13 Hg13 Hb13
      go_wp2_with (refine wpList_store_arr rfl _ _ _ rfl _ (bcells M) rfl rfl _ _ Hb13.out (Try.blockFits HML.out) (by rw [bcells_size, bcells_size, HML.out, zeros_len]) (oneCell_bcells _) ?_)
      apply Stop.go; intro w14 Ho14 Hb14
      have C14 := Lib.hid ((C12.out.ext Hg13.out.1).only_none Ho14.out (C12.out.none_ge (Nat.le_refl _)))
      have S14 := Lib.hid ((S12.out.ext Hg13.out.1).only Ho14.out S12.out.bel.size)
      have X14 := Lib.hid ((X12.out.ext Hg13.out.1).only Ho14.out (Nat.ne_of_lt X12.out.lt))
      have Y14 := Lib.hid ((Y12.out.ext Hg13.out.1).only Ho14.out (Nat.ne_of_lt Y12.out.lt))
      clear C12 S12 X12 Y12 Hg13 Hb13 Ho14 Hb14
      have CP := c_put C14.out (by omega) no n1 n2 ⟨0, [1]⟩ _ 1 1 (pv _ X14.out) none 0 0 [] rfl (by omega) (RC.nil_ _ _) (fun y hy => (by cases hy)) (fun ad e => by injection e with e; subst e; exact NX12.out) (fun _ ad e => by cases e)
      rw [show (⟨0, no, ⟨0, [1]⟩, []⟩ : StC) = xn no from rfl, Q.out.1, Q.out.2.1] at CP
      go_wp2_with (refine wpList_load_blk rfl _ _ rfl _ rfl _ _ Y14.out _ Try.underlying25 rfl Try.patchSize ?_)
      refine (CP).mono ?_; rintro e w15 ⟨rfl, ro15, hc15, ht15⟩
      have C15 := Lib.hid hc15
      have S15 := Lib.hid (S14.out.tr ht15)
      clear hc15 ht15 CP C14 S14 X14 Y14 NX12
      have CL := c_last C15.out

      rw [Q.out.2.2, QL.out] at CL
      have CF := c_flush C15.out (by omega) no n1 n2
      rw [Q.out.2.2, QF.out] at CF
      go_wp2_with fail
      refine (CL).mono ?_; rintro e w16 ⟨rfl, rfl⟩
      go_wp2_with fail
      refine (CF).mono ?_; rintro e w17 ⟨rfl, ro17, hc17, ht17⟩
      have S17 := Lib.hid (S15.out.tr ht17)
      clear hc17 ht17 CL CF
      go_wp2_with fail
      refine (works12_any _).mono ?_; rintro e w18 ⟨rfl, hb18⟩
      have B18 := Lib.hid (S17.out.ext hb18).bel
      clear hb18
      go_wp2_with fail
      go_ret
      exact ⟨rfl, B18.out⟩

end Go.Proofs.Ytknbjdldmednlaa
