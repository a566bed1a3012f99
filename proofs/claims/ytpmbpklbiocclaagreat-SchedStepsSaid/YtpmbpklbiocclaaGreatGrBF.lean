/-
  Texts of this claim joined: Law12y, Law13s.
-/
import Derived.Test.YtpmbpklbiocclaaGreatGrBE
import Derived.Test.YtpmbpklbiocclaaGreatGrBA
import Derived.Test.YtpmbpklbiocclaaGreatRef12e
import Derived.Test.YtpmbpklbiocclaaGreatGrBD
import Derived.Test.YtpmbpklbiocclaaGreatGrAV
import Derived.Test.YtpmbpklbiocclaaGreatGrAW

namespace Go.Proofs.YtpmbpklbiocclaaGreat
open Go.RowKit

theorem DC.uptoGo_fuse : ∀ n {x : DC} (id : Int), x.fuse < 9223372036854775808 → (DC.uptoGo n x id).1.fuse < 9223372036854775808 := by
  intro n
  induction n with
  | zero => intro x id h; exact h
  | succ n ih =>
    intro x id h
    unfold DC.uptoGo
    split
    · exact h
    · split
      · split
        · exact ih _ (DC.flush_fuse _ h)
        · exact DC.flush_fuse _ h
      · exact h
theorem DC.go_fuse {x : DC} {s : StC} (h : x.fuse < 9223372036854775808) (hs : s.no < 9223372036854775808) : (x.go s).1.fuse < 9223372036854775808 := by
  unfold DC.go
  split
  · show (x.put s).fuse < _
    unfold DC.put
    split <;> exact h
  · split
    · exact DC.flush_fuse _ h
    · split
      · exact DC.uptoGo_fuse _ _ h
      · split
        · exact DC.uptoGo_fuse _ _ h
        · split
          · show (if s.no < 0 then (-1 : Int) else s.no) < _
            split
            · decide
            · exact hs
          · split
            · show (-1 : Int) < _
              decide
            · exact h
section
variable {w w' : World} {ro ro' : Nat → Option Rl} {c b g : Nat} {x : DC} {T : Nat}
theorem c_down (h : Cch w ro c b g x T) : Calls Tryz.prog 34 #[.pointer (some ⟨b, 0, none⟩)] w fun e w' => e = .returned (.bool x.off) ∧ w' = w := by
  obtain ⟨d, hd, d1, d2, d3, d4, d5, _⟩ := h.dv
  have h1 := down_any (h := hd.ds)
  rw [d3] at h1
  exact h1
theorem RdL.keepP {α : Type} {D : Rds α} {p : Nat → Prop} {A : Option Addr} {N : Nat} {l : List α} (h : RdL (RdP D p) w A N l) (hk : ∀ q, q < w.heap.size → p q → w'.heap[q]? = w.heap[q]?) (ha : 0 < l.length → ∀ ad, A = some ad → p ad.block) : RdL (RdP D p) w' A N l := by
  obtain ⟨rows, h1, h2, h3, h4⟩ := h
  refine ⟨rows, h1, fun k hk' i hi => ?_, h3, fun k hk1 hk2 => (RdP D p).stable (h4 k hk1 hk2) fun q hq => hk q ((RdP D p).there (h4 k hk1 hk2) q hq) ((h4 k hk1 hk2).2 q hq)⟩
  obtain ⟨ad, x, e, hx, hc⟩ := h2 k hk' i hi
  refine ⟨ad, x, e, hx, ?_⟩
  have hlt := block_lt_of_cell hc
  rw [block_of_add] at hlt
  rw [World.cell?_of_block (w := w) (w' := w') (by rw [block_of_add]; exact hk _ hlt (ha (by omega) ad e))]
  exact hc
theorem RdL.keepT {A : Option Addr} {l : List Bool} {p : Nat → Prop} (h : RdL RdT w A 1 l) (hk : ∀ q, q < w.heap.size → p q → w'.heap[q]? = w.heap[q]?) (ha : 0 < l.length → ∀ ad, A = some ad → p ad.block) : RdL RdT w' A 1 l := by
  obtain ⟨rows, h1, h2, h3, h4⟩ := h
  refine ⟨rows, h1, fun k hk' i hi => ?_, h3, h4⟩
  obtain ⟨ad, x, e, hx, hc⟩ := h2 k hk' i hi
  refine ⟨ad, x, e, hx, ?_⟩
  have hlt := block_lt_of_cell hc
  rw [block_of_add] at hlt
  rw [World.cell?_of_block (w := w) (w' := w') (by rw [block_of_add]; exact hk _ hlt (ha (by omega) ad e))]
  exact hc
theorem DCQ.tr {p p' : Nat → Prop} {Ab : Option Addr} {nb cb : Nat} {Al : Option Addr} {nl cl : Nat} {Ak : Option Addr} {nk ck : Nat} (h : DCQ p w x Ab nb cb Al nl cl Ak nk ck) (t : Tr ro ro' w w') (h1 : ∀ q, p q → ro q = none) (h2 : ∀ q, p q → ro' q = none → p' q) : DCQ p' w' x Ab nb cb Al nl cl Ak nk ck := by
  have hk : ∀ q, q < w.heap.size → p q → w'.heap[q]? = w.heap[q]? := fun q hq hp => (t.keep q hq (h1 q hp)).2
  have hn : ∀ q, q < w.heap.size → p q → (p q ∧ p' q) := fun q hq hp => ⟨hp, h2 q hp (t.keep q hq (h1 q hp)).1⟩
  have hb0 : 0 < x.base.length → ∀ ad, Ab = some ad → (p ad.block ∧ p' ad.block) := fun hl ad e => hn _ (h.v.base.ablk (by decide) hl ad e) (h.b0 hl ad e)
  have hl0 : 0 < x.list.length → ∀ ad, Al = some ad → (p ad.block ∧ p' ad.block) := fun hl ad e => hn _ (h.v.list.ablk (by decide) hl ad e) (h.l0 hl ad e)
  have hk0 : 0 < x.knows.length → ∀ ad, Ak = some ad → (p ad.block ∧ p' ad.block) := fun hl ad e => hn _ (h.v.knows.ablk (by decide) hl ad e) (h.k0 hl ad e)
  have hb := ((h.bp.monoP hn).keepP (w' := w') (fun q hq hp => hk q hq hp.1) hb0).monoP (p' := p') (fun q _ hp => hp.2)
  have hl := ((h.lp.monoP hn).keepP (w' := w') (fun q hq hp => hk q hq hp.1) hl0).monoP (p' := p') (fun q _ hp => hp.2)
  have hkn := h.v.knows.keepT (p := p) hk h.k0
  exact ⟨⟨h.v.hnb, h.v.hcb, h.v.hmb, hb.ofP, h.v.hnl, h.v.hcl, h.v.hml, hl.ofP, h.v.hnk, h.v.hck, h.v.hmk, hkn, h.v.need⟩, hb, hl, fun q ad e => (hb0 q ad e).2, fun q ad e => (hl0 q ad e).2, fun q ad e => (hk0 q ad e).2⟩
end
section
variable {P : Program} {a : Act} {w : World}
theorem exec_slice_off {o : Oper} (t : TypeId) (x : Operand) (ho : o.op = .slice t x none none none) (N e : Nat) (hu : P.underlying t = some (.array N e)) (hs : (P.info? e).map (·.size) = some 1)
    (g off : Nat) (hx : a.eval x = .pointer (some ⟨g, off, none⟩)) (_h3 : 0 < N) : (execOp a.eval o).run P w = .ok (.value (.slice (some ⟨g, off, none⟩) N N)) w := by
  obtain ⟨i, hi, hiz⟩ := Option.map_eq_some_iff.1 hs
  have hr : (Instr.sliceAt t (.pointer (some ⟨g, off, none⟩)) none none none).run P w = .ok (.slice (some ⟨g, off, none⟩) N N) w := by
    simp [Instr.sliceAt, Instr.sureAddr, run_underlying hu, Instr.sliceBounds, sizeOf, typeInfo, hi, Addr.add]
  unfold execOp
  simp only [ho, Sem.run_bind, Sem.run_pure, Result.andThen_ok, Option.map_none, hx, hr]
end
theorem RK.row {w : World} {g : Nat} {L : List (List UInt8)} (h : RK w (some ⟨g, 0, none⟩) L) (hL : Bks L) {k : Nat} (hk : k < L.length) : RB w (some ⟨g, k * 256, none⟩) L[k] := fun i hi => by
  have h256 : L[k].length = 256 := hL _ (List.getElem_mem hk)
  obtain ⟨ad, x, e, hx, hc⟩ := h k hk i (by omega)
  injection e with e
  subst e
  rw [addr_add0] at hc
  rw [List.getElem?_eq_getElem hi] at hx
  injection hx with hx
  refine ⟨_, rfl, ?_⟩
  have e2 : (⟨g, k * 256, none⟩ : Addr).add i = ⟨g, k * 256 + i, none⟩ := by unfold Addr.add; split <;> simp_all
  rw [e2, hc, hx]
theorem needs_low {w : World} {s : Cg} {Ad : Option Addr} {nd cd : Nat} {An : Option Addr} {nn cn : Nat} (h : CV w s Ad nd cd An nn cn) (hn : 0 < nn) : ∀ ad, An = some ad → ad.block < w.heap.size := fun ad e => by
  obtain ⟨ad', e', hc⟩ := h.read 0 (by rw [ivals_len, h.len]; exact hn)
  rw [e] at e'
  injection e' with e'
  subst e'
  have := block_lt_of_cell hc
  rwa [block_of_add] at this
theorem bytes_low {w : World} {s : Cg} {Ad : Option Addr} {nd cd : Nat} {An : Option Addr} {nn cn : Nat} (h : CV w s Ad nd cd An nn cn) (hn : 0 < nd) : ∀ ad, Ad = some ad → ad.block < w.heap.size := fun ad e => by
  subst e
  exact h.p.lt (by rw [h.p.len]; exact hn)

end Go.Proofs.YtpmbpklbiocclaaGreat

namespace Go.Proofs.YtpmbpklbiocclaaGreat
open Go.RowKit

set_option maxRecDepth 100000 in
set_option maxHeartbeats 16000000 in
theorem lsame13_any {w : World} {ro : Nat → Option Rl} {c b g : Nat} {x : DC} {T : Nat} (h : Cch w ro c b g x T) (hT : T ≤ 900) (h16 : x.base.length = 16) (Ab : Option Addr) (nb cb : Nat) (Al : Option Addr) (nl cl : Nat) (Ak : Option Addr) (nk ck : Nat) (hv : DCV w x Ab nb cb Al nl cl Ak nk ck) :
    Calls Tryz.prog 11 #[.pointer (some ⟨c, 0, none⟩), .pointer (some ⟨b, 0, none⟩), .agg #[.slice Ab nb cb, .slice Al nl cl, .int .i64 ((x).last : Int), .int .i64 (x).fuse, .bool (x).off, .int .i64 ((x).wrote : Int), .slice Ak nk ck]] w fun e w' => e = .returned (.bool true) ∧ Below w.heap.size w w' := by
  have H0 := Lib.hid h
  have V0 := Lib.hid hv
  have BL := Lib.hid h16
  clear h hv h16
  go_enter Tryz.func11, Tryz.ntmps11
  go_wp2_with (refine wpList_box_row rfl _ _ rfl _ rfl ?_)
  apply Stop.go; intro w1 Hg1 Hb1
  have C := Lib.hid (H0.out.ext Hg1.out.1)
  have V := Lib.hid (V0.out.below Hg1.out.1)
  have W1 := Lib.hid Hg1.out.1
  obtain ⟨gx, hgx⟩ : ∃ q, q = w.heap.size := ⟨_, rfl⟩
  rw [← hgx] at Hb1 ⊢
  have X := Lib.hid (show Blk w1 gx 32 #[.slice Ab nb cb, .slice Al nl cl, .int .i64 ((x).last : Int), .int .i64 (x).fuse, .bool (x).off, .int .i64 ((x).wrote : Int), .slice Ak nk ck] from Hb1.out)
  clear hgx Hg1 Hb1 H0 V0
  have YL := Lib.hid (show x.list.length ≤ 1000 from by have h1 := C.out.ok.wrote; have h2 := C.out.last; omega)
  go_wp2_with fail
  refine WH.start (S := fun w' : World => Below w1.heap.size w1 w') (List.replicate 28 false) 28 rfl rfl (by kernel_rfl) (bdrew w1 1) (fun hSn => ?_)
  simp only [List.replicate]
  obtain ⟨wS, hwS⟩ : ∃ q, w1.drew = q := ⟨_, rfl⟩
  rw [hwS] at hSn ⊢
  have BS := Lib.hid hSn
  clear hwS
  refine WH.tk 0 ?_; simp only [setL]
  refine WH.tk 2 ?_; simp only [setL]
  refine WH.tv 3 rfl (fun w' hSw => exec_load_cell _ _ rfl _ rfl (.int .i64 (x.last : Int)) (X.out.ext hSw).seven.2.2.1 _ Tryz.underlying3 rfl) ?_; simp only [setL]
  refine WH.only 1 _ rfl (by kernel_rfl) rfl (fun K hK => ?_); go_simp; refine (c_last (C.out.ext BS.out)).mono ?_; rintro e wa ⟨rfl, rfl⟩; go_simp
  have hSn := BS.out; refine hK _ _ hSn ?_; clear hK; clear K; simp only [setL]
  refine WH.tk 4 ?_; simp only [setL]
  refine WH.tk 5 ?_; simp only [setL]
  refine WH.tk 6 ?_; simp only [setL]
  refine WH.tk 8 ?_; simp only [setL]
  refine WH.tv 9 rfl (fun w' hSw => exec_load_cell _ _ rfl _ rfl (.int .i64 (x.wrote : Int)) (X.out.ext hSw).seven.2.2.2.2.2.1 _ Tryz.underlying3 rfl) ?_; simp only [setL]
  refine WH.only 7 _ rfl (by kernel_rfl) rfl (fun K hK => ?_); go_simp; refine (c_writes (C.out.ext BS.out)).mono ?_; rintro e wb ⟨rfl, rfl⟩; go_simp
  have hSn := BS.out; refine hK _ _ hSn ?_; clear hK; clear K; simp only [setL]
  refine WH.tk 10 ?_; simp only [setL]
  refine WH.tk 11 ?_; simp only [setL]
  refine WH.tk 12 ?_; simp only [setL]
  refine WH.tk 13 ?_; simp only [setL]
  refine WH.tk 15 ?_; simp only [setL]
  refine WH.tv 16 rfl (fun w' hSw => exec_load_cell _ _ rfl _ rfl (.bool x.off) (X.out.ext hSw).seven.2.2.2.2.1 _ Tryz.underlying4 rfl) ?_; simp only [setL]
  refine WH.only 14 _ rfl (by kernel_rfl) rfl (fun K hK => ?_); go_simp; refine (c_down (C.out.ext BS.out)).mono ?_; rintro e wc ⟨rfl, rfl⟩; go_simp
  have hSn := BS.out; refine hK _ _ hSn ?_; clear hK; clear K; simp only [setL]
  refine WH.tk 17 ?_; simp only [setL]
  refine WH.tk 18 ?_; simp only [setL]
  refine WH.tk 19 ?_; simp only [setL]
  refine WH.tk 20 ?_; simp only [setL]
  refine WH.tk 23 ?_; simp only [setL]
  refine WH.tv 24 rfl (fun w' hSw => exec_load_cell _ _ rfl _ rfl (.slice Al nl cl) (X.out.ext hSw).seven.2.1 _ Tryz.underlying29 rfl) ?_; simp only [setL]
  have CL := (c_left (C.out.ext BS.out) (by omega)).mono (fun _ _ h => RetCH.plain h)
  refine WH.only 21 _ rfl (by kernel_rfl) rfl (fun K hK => ?_); go_simp; refine (CL).mono ?_; rintro e wd ⟨A1, n1, c1, rfl, q1, q2, q3, hr1, hb1⟩; go_simp
  have BS := Lib.hid (bt BS.out hb1)
  have R1 := Lib.hid hr1
  clear hr1 hb1 CL
  have hSn := BS.out; refine hK _ _ hSn ?_; clear hK; clear K; simp only [setL]
  have CO := of9_any A1 n1 c1 x.list q1 (by have := YL.out; omega) wd R1.out
  refine WH.only 22 _ rfl (by kernel_rfl) rfl (fun K hK => ?_); go_simp; refine (CO).mono ?_; rintro e wf ⟨A3, n3, c3, rfl, q4, q5, q6, hr3, hb3⟩; go_simp
  have BS := Lib.hid (bt BS.out hb3)
  have R3 := Lib.hid hr3
  clear hr3 hb3 CO R1 q1 q2 q3 q5 q6
  have hSn := BS.out; refine hK _ _ hSn ?_; clear hK; clear K; simp only [setL]
  have VL := Lib.hid V.out.hnl
  have e3 : n3 = nl := q4.symm.trans VL.out
  subst e3
  have HQ4 := Lib.hid q4
  clear q4
  have CS := rsameAll9_any A3 n3 c3 Al cl x.list HQ4.out (by have h1 := YL.out; have h2 := HQ4.out; omega) wf R3.out (V.out.list.below BS.out)
  refine WH.only 25 _ rfl (by kernel_rfl) rfl (fun K hK => ?_); go_simp; refine (CS).mono ?_; rintro e wg ⟨rfl, hb4⟩; go_simp
  have BS := Lib.hid (bt BS.out hb4)
  clear hb4 CS R3
  have hSn := BS.out; refine hK _ _ hSn ?_; clear hK; clear K; simp only [setL]
  refine WH.tk 26 ?_; simp only [setL]
  refine WH.tk 27 ?_; simp only [setL]
  refine WH.done (by kernel_rfl) ?_
  have C2 := Lib.hid (C.out.ext BS.out)
  have X2 := Lib.hid (X.out.ext BS.out)
  have V2 := Lib.hid (V.out.below BS.out)
  have W2 := Lib.hid (bt W1.out BS.out)
  clear C X V W1 BS hSn
  have CI := c_image C2.out (by rw [BL.out]; omega)
  rw [BL.out] at CI
  go_wp2_with fail
  refine (CI).mono ?_; rintro e w9 ⟨gi, ci, rfl, hge, hlt9, hrk, hci1, hci2, hb9⟩
  have RI := Lib.hid hrk
  have X9 := Lib.hid (X2.out.ext hb9)
  have VB := Lib.hid (V2.out.below hb9)
  have W9 := Lib.hid (bt W2.out hb9)
  have HB := Lib.hid C2.out.ok.bks
  clear hrk hge hlt9 hci1 hci2 hb9 C2 X2 V2 W2 CI
  go_wp2_with fail
  go_loopw [8] (fun i wr => ∃ q : Nat, q ≤ 16 ∧ i = .int .i64 q ∧ Below w9.heap.size w9 wr) (fun i _ => 16 - (intOf i).toNat)
  case atStart => exact ⟨0, by omega, rfl, Below.refl _ _⟩
  case round =>
    obtain ⟨q, hq, rfl, hbq⟩ := hrel
    have BQ := Lib.hid hbq
    clear hbq
    by_cases hq16 : q < 16
    · have d3 : decide ((q : Int) < 16) = true := by rw [decide_eq_true_eq]; omega
      have hqI : (q : Int) < 16 := by omega
      have hqX : q < x.base.length := by rw [BL.out]; exact hq16
      have zq : (q : Int) < nb := by have := VB.out.hnb; omega
      have h256 : x.base[q].length = 256 := HB.out _ (List.getElem_mem hqX)
      have RR := Lib.hid (RI.out.row HB.out hqX)
      obtain ⟨ad2, B2, c2, hAb, k0, -, hc2, hrb⟩ := VB.out.base.bytes hqX
      rw [h256] at k0
      have H256 := Lib.hid h256
      have K0 := Lib.hid k0
      have RB2 := Lib.hid hrb
      subst hAb
      clear k0 hrb hc2 h256
      have CS : ∀ w' : World, Below w9.heap.size w9 w' → Calls Tryz.prog 38 #[.slice (some ⟨gi, q * 256, none⟩) 256 256, .slice B2 256 c2] w' fun e w'' => e = .returned (.bool true) ∧ Below w'.heap.size w' w'' := fun w' hb => (same_any _ 256 256 x.base[q] H256.out B2 256 c2 x.base[q] H256.out (by decide) (by decide) w' (RR.out.below hb) (RB2.out.below hb)).mono (fun e w'' h => by
        obtain ⟨rfl, m, rfl⟩ := h
        exact ⟨by simp, bdrew _ m⟩)
      have CS := Lib.hid CS
      go_wp2_with fail
      refine WH.start (S := fun w' : World => Below w9.heap.size w9 w') [false, false, false, false, false, false, false, false, false, false, false, false, false, false, false, false] 16 rfl rfl (by kernel_rfl) (bt BQ.out (bdrew wr 1)) (fun hSn => ?_)
      obtain ⟨wS, hwS⟩ : ∃ x, wr.drew = x := ⟨_, rfl⟩
      rw [hwS] at hSn ⊢
      have BS := Lib.hid hSn
      clear hwS
      refine WH.tk 0 ?_; simp only [setL]
      refine WH.tk 1 ?_; simp only [setL]
      refine WH.tk 2 ?_; simp only [setL]
      refine WH.tk 3 ?_; simp only [setL]
      refine WH.tk 4 ?_; simp only [setL]
      refine WH.tk 5 ?_; simp only [setL]
      refine WH.tk 6 ?_; simp only [setL]
      refine WH.tv 7 rfl (fun w' hSw => exec_slice_off _ _ rfl 256 5 Tryz.underlying50 Tryz.byteSize gi (q * 256) rfl (by decide)) ?_; simp only [setL]
      refine WH.tk 8 ?_; simp only [setL]
      refine WH.tv 9 rfl (fun w' hSw => exec_load_cell _ _ rfl _ rfl (.slice (some ad2) nb cb) (X9.out.ext hSw).seven.1 _ Tryz.underlying28 rfl) ?_; simp only [setL]
      refine WH.tk 10 ?_; simp only [setL]
      refine WH.tk 11 ?_; simp only [setL]
      refine WH.tv 12 rfl (fun w' hSw => exec_load_cell _ _ rfl _ rfl (.slice B2 256 c2) ((hSw.cell (block_lt_of_cell K0.out)).trans K0.out) _ Tryz.underlying56 rfl) ?_; simp only [setL]
      refine WH.only 13 _ rfl (by kernel_rfl) rfl (fun K hK => ?_); go_simp; refine (CS.out wS BS.out).mono ?_; rintro e wt ⟨rfl, hb9⟩; go_simp
      have BT := Lib.hid (bt BS.out hb9)
      clear hb9 CS
      have hSn := BT.out; refine hK _ _ hSn ?_; clear hK; clear K; simp only [setL]
      refine WH.tk 14 ?_; simp only [setL]
      refine WH.tk 15 ?_; simp only [setL]
      refine WH.done (by kernel_rfl) ?_
      go_wp2_with fail
      go_roundw
      case rel => exact ⟨q + 1, by omega, by go_num, BT.out⟩
      case measure => simp [intOf]; omega
    · have d3 : decide ((q : Int) < 16) = false := by rw [decide_eq_false_iff_not]; omega
      go_wp2_with fail
      go_ret
      exact ⟨rfl, bt W9.out BQ.out⟩

end Go.Proofs.YtpmbpklbiocclaaGreat
