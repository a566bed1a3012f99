/-
  The contract of the document's Flush.
-/
import Derived.Test.YtpmbpklbiocclaaGreatGrAQ
import Derived.Test.YtpmbpklbiocclaaGreatGrAU
import Derived.Test.YtpmbpklbiocclaaGreatGrBA
import Derived.Test.YtpmbpklbiocclaaGreatGrAT
namespace Go.Proofs.YtpmbpklbiocclaaGreat
open Go.RowKit

theorem Tryz.dcBytes : (Tryz.prog.info? 56).map (fun i => (i.zero, i.size, i.bytes)) = some (some (.slice none 0 0), 1, 24) := by kernel_rfl
theorem Tryz.dcBytesSz : (Tryz.prog.info? 56).map (·.size) = some 1 := by kernel_rfl
theorem Tryz.dcBaseSz : (Tryz.prog.info? 28).map (·.size) = some 1 := by kernel_rfl
theorem Tryz.dcListSz : (Tryz.prog.info? 29).map (·.size) = some 1 := by kernel_rfl
theorem Tryz.dcIntSz : (Tryz.prog.info? 3).map (·.size) = some 1 := by kernel_rfl
theorem blocks_one {A : Option Addr} {n c q : Nat} (h : q ∈ blocksOf [Value.slice A n c]) : ∃ ad, A = some ad ∧ ad.block = q := by
  obtain ⟨v, hv, hl⟩ := mem_blocksOf.1 h
  rw [List.mem_singleton] at hv
  subst hv
  cases A with
  | none => cases hl
  | some ad =>
    rw [leads_slice] at hl
    split at hl
    · cases hl
    · injection hl with hl
      exact ⟨ad, rfl, hl⟩
theorem RB.lowAll {w : World} {A : Option Addr} {L : List UInt8} (h : RB w A L) (hl : 0 < L.length) : ∀ ad, A = some ad → ad.block < w.heap.size := fun ad e => by
  obtain ⟨ad', e', hc⟩ := h 0 hl
  rw [e] at e'
  injection e' with e'
  subst e'
  have := block_lt_of_cell hc
  rwa [block_of_add] at this
theorem RdL.bytesP {w : World} {p : Nat → Prop} {A : Option Addr} {l : List (List UInt8)} (h : RdL (RdP RdBs p) w A 1 l) {k : Nat} (hk : k < l.length) :
    ∃ ad B c, A = some ad ∧ w.cell? (ad.add k) = some (.slice B l[k].length c) ∧ l[k].length ≤ c ∧ c ≤ maxLen ∧ RB w B l[k] ∧ (0 < l[k].length → ∀ ad, B = some ad → p ad.block) := by
  obtain ⟨ad, r, e, _, ⟨⟨B, c, rfl, q1, q2, q3⟩, hp⟩, hc⟩ := h.at_ hk (by decide)
  have h0 := hc 0 _ rfl
  rw [add_of_add, Nat.add_zero, Nat.mul_one] at h0
  exact ⟨ad, B, c, e, h0, q1, q2, q3, fun hl a e => hp a.block (mem_blocksOf.2 ⟨_, List.mem_singleton.2 rfl, by rw [e, leads_slice, if_neg (by omega)]⟩)⟩
set_option maxRecDepth 100000 in
set_option maxHeartbeats 8000000 in
theorem flush12_any (p : Nat → Prop) (x : DC) (Ab : Option Addr) (nb cb : Nat) (Al : Option Addr) (nl cl : Nat) (Ak : Option Addr) (nk ck : Nat) (no : Int) (w : World) (hp : ∀ q, w.heap.size ≤ q → p q) (h : DCQ p w x Ab nb cb Al nl cl Ak nk ck) (hok : x.Ok) (hlast : x.last ≤ 1000) (hfu : x.fuse < 9223372036854775808) :
    Calls Tryz.prog 28 #[.agg #[.slice Ab nb cb, .slice Al nl cl, .int .i64 ((x).last : Int), .int .i64 (x).fuse, .bool (x).off, .int .i64 ((x).wrote : Int), .slice Ak nk ck], .int .i64 no] w (RetDE p w (x.flush no) (x.flushE no)) := by
  have HQ := Lib.hid h
  have H := Lib.hid h.v
  have HP := Lib.hid hp
  have HOk := Lib.hid hok
  have HL0 := Lib.hid (h.lp.monoP (p' := fun q => p q ∧ q < w.heap.size) (fun q hq hpq => ⟨hpq, hq⟩))
  have hml := h.v.hml
  have hmb := h.v.hmb
  have HN : Hid (∀ c ∈ x.list, c.needs.length ≤ 4096) := Lib.hid (fun c hc => by have := h.v.need c hc; omega)
  have hfl := hok.fuse
  clear h hok hp
  go_enter Tryz.func28, Tryz.ntmps28
  go_wp2_with (refine wpList_box_row rfl _ _ rfl _ rfl ?_)
  apply Stop.go; intro w1 Hg1 Hb1
  go_wp2_with (refine wpList_alloc_row rfl _ rfl _ Tryz.dcZero ?_)
  apply Stop.go; intro w2 Hg2 Hb2
  have Hb12 := Lib.hid (Hb1.out.ext Hg2.out.1)
  have Hw2 := Lib.hid (bt Hg1.out.1 Hg2.out.1)
  have Z := Lib.hid (show w1.heap.size = w.heap.size + 1 ∧ w2.heap.size = w1.heap.size + 1 from ⟨Hg1.out.2, Hg2.out.2⟩)
  have c1 := Hb12.out.seven.2.1
  clear Hg1 Hg2 Hb1
  go_wp2_with fail
  refine (rready9O_any Al nl cl x.list H.out.hnl (by omega) HN.out no _ (H.out.list.below Hw2.out)).mono ?_; rintro e w3 ⟨vi, rfl, hoi, hb3⟩
  obtain ⟨Ai, ci, rfl, qi, ri, _⟩ := hoi.ints
  obtain ⟨ni, ei⟩ : ∃ ni, (readyC x.list no).length = ni := ⟨_, rfl⟩
  rw [ei] at hoi qi ⊢
  have Hei := Lib.hid ei
  have Hi3 := Lib.hid hoi
  have Hc3 := Lib.hid (Hb12.out.ext hb3)
  have Hz3 := Lib.hid (Hb2.out.ext hb3)
  have D3 := Lib.hid hb3
  have Hw3 := Lib.hid (bt Hw2.out hb3)
  have hni : ni ≤ 1000 := by have := readyC_sub (l := x.list) (block := no); have h2 := this.length_le; rw [List.length_map] at h2; have := H.out.hnl; omega
  clear ei hoi hb3 c1 Hb12 Hb2
  by_cases hz : ni = 0
  · subst hz
    have he : readyC x.list no = [] := List.eq_nil_of_length_eq_zero Hei.out
    have HX : Hid (x.flush no = x ∧ x.flushE no = 0) := Lib.hid ⟨by unfold DC.flush; rw [if_pos he], by unfold DC.flushE; rw [if_pos he]⟩
    clear he
    go_wp2_with (first | refine wpList_load_blk rfl _ _ rfl _ rfl _ _ Hc3.out _ Tryz.underlying32 rfl Tryz.dcSize ?_ | refine wpList_store_arr rfl _ _ _ rfl _ #[.slice Ab nb cb, .slice Al nl cl, .int .i64 ((x).last : Int), .int .i64 (x).fuse, .bool (x).off, .int .i64 ((x).wrote : Int), .slice Ak nk ck] rfl rfl _ _ Hz3.out Tryz.dcSize rfl (by simp [Value.oneCell']) ?_); apply Stop.go; intro w4 Ho4 Hb4
    go_wp2_with ((with_reducible show bodyPost _ _ _ _ _ _); refine bodyPost_struct_tmp rfl _ rfl _ _ Hb4.out _ Tryz.underlying32 rfl Tryz.dcSize rfl _ rfl ?_); apply Stop.go
    rw [HX.out.1, HX.out.2]
    have hw4 := bonly Hw3.out Ho4.out (by have := Z.out; omega)
    exact ⟨_, _, _, _, _, _, _, _, _, rfl, HQ.out.below hw4, hw4⟩
  have hne : readyC x.list no ≠ [] := fun e => hz (by rw [← Hei.out, e]; rfl)
  have d0 : decide ((ni : Int) = 0) = false := decide_eq_false (by omega)
  have d0b : ((ni : Int) == 0) = false := by simp; omega
  obtain ⟨c0, hc0, hcb⟩ := ready_block HOk.out.may hne
  have hbk := HOk.out.blk c0 hc0
  rw [hcb] at hbk
  have c4 := Hc3.out.seven.2.2.2.2.1
  have c3 := Hc3.out.seven.2.2.2.1
  obtain ⟨st, hst⟩ : ∃ st, x.stuck = st := ⟨_, rfl⟩
  have HE : Hid (x.flushE no = if st then 12 else 0) := Lib.hid (by unfold DC.flushE; rw [if_neg hne, hst])
  obtain ⟨k, rfl⟩ := Int.eq_ofNat_of_zero_le hbk.1
  have hkb : k < x.base.length := by omega
  have HF : Hid (x.flush (k : Int) = if st then { x with off := true } else { x with fuse := if 0 < x.fuse then x.fuse - 1 else x.fuse, base := x.base.set k (imageC x.base[k] x.list k), list := leftC x.list k, wrote := x.wrote + 1 }) := Lib.hid (by
    unfold DC.flush
    rw [if_neg hne, hst, Int.toNat_natCast, List.getD_eq_getElem?_getD, List.getElem?_eq_getElem hkb]
    rfl)
  obtain ⟨o, ho⟩ : ∃ o, x.off = o := ⟨_, rfl⟩
  have HO := Lib.hid ho
  rw [ho] at c4
  have hst2 : st = (o || decide (x.fuse = 0)) := by rw [← hst, ← ho]; rfl
  have HL9 := Lib.hid hlast
  clear hst ho hc0 hcb hne hz
  cases st
  rotate_left
  · have HX : Hid (x.flush (k : Int) = { x with off := true } ∧ x.flushE (k : Int) = 12) := Lib.hid ⟨by rw [HF.out]; rfl, by rw [HE.out]; rfl⟩
    have hcase : o = true ∨ (o = false ∧ decide (x.fuse = 0) = true) := by
      cases o
      · exact Or.inr ⟨rfl, by simpa using hst2.symm⟩
      · exact Or.inl rfl
    clear hst2
    rcases hcase with rfl | ⟨rfl, df⟩
    all_goals
      try have df2 : (x.fuse == 0) = true := by simpa using df
      go_wp2_with (refine wpList_store_cell rfl _ _ _ rfl Tryz.dcBoolSz w.heap.size 4 rfl (.bool true) rfl rfl rfl _ _ Hc3.out (by show 4 < 7; omega) ?_)
      apply Stop.go; intro w4 Ho4 Hb4
      have Hc4 : Hid (Blk w4 w.heap.size 32 #[.slice Ab nb cb, .slice Al nl cl, .int .i64 (x.last : Int), .int .i64 x.fuse, .bool true, .int .i64 (x.wrote : Int), .slice Ak nk ck]) := Lib.hid Hb4.out
      have Hz4 := Lib.hid (Hz3.out.only Ho4.out (by have := Z.out; omega))
      have D4 := Lib.hid (bonly Hw3.out Ho4.out (Nat.le_refl _))
      clear Hb4 Ho4
      go_wp2_with (first | refine wpList_load_blk rfl _ _ rfl _ rfl _ _ Hc4.out _ Tryz.underlying32 rfl Tryz.dcSize ?_ | refine wpList_store_arr rfl _ _ _ rfl _ #[.slice Ab nb cb, .slice Al nl cl, .int .i64 (x.last : Int), .int .i64 x.fuse, .bool true, .int .i64 (x.wrote : Int), .slice Ak nk ck] rfl rfl _ _ Hz4.out Tryz.dcSize rfl (by simp [Value.oneCell']) ?_)
      apply Stop.go; intro w5 Ho5 Hb5
      go_wp2_with ((with_reducible show bodyPost _ _ _ _ _ _); refine bodyPost_struct_tmp rfl _ rfl _ _ Hb5.out _ Tryz.underlying32 rfl Tryz.dcSize rfl _ rfl ?_); apply Stop.go
      rw [HX.out.1, HX.out.2]
      have hw5 := bonly D4.out Ho5.out (by have := Z.out; omega)
      have hv := H.out.below hw5
      have hq := HQ.out.below hw5
      exact ⟨_, _, _, _, _, _, _, _, _, rfl, ⟨⟨hv.hnb, hv.hcb, hv.hmb, hv.base, hv.hnl, hv.hcl, hv.hml, hv.list, hv.hnk, hv.hck, hv.hmk, hv.knows, hv.need⟩, hq.bp, hq.lp, hq.b0, hq.l0, hq.k0⟩, hw5⟩
  · have ho2 : o = false ∧ decide (x.fuse = 0) = false := by
      cases o
      · exact ⟨rfl, by simpa using hst2.symm⟩
      · simp at hst2
    obtain ⟨rfl, df⟩ := ho2
    have df2 : (x.fuse == 0) = false := by simpa using df
    clear hst2
    have HX : Hid (x.flush (k : Int) = { x with fuse := if 0 < x.fuse then x.fuse - 1 else x.fuse, base := x.base.set k (imageC x.base[k] x.list k), list := leftC x.list k, wrote := x.wrote + 1 } ∧ x.flushE (k : Int) = 0) := Lib.hid ⟨by rw [HF.out]; rfl, by rw [HE.out]; rfl⟩
    clear HF HE
    by_cases hf : 0 < x.fuse
    focus (
      have df3 : decide (0 < x.fuse) = true := decide_eq_true hf
      have HFu : Hid ((if 0 < x.fuse then x.fuse - 1 else x.fuse) = x.fuse - 1) := Lib.hid (if_pos hf)
      rw [HFu.out] at HX
      obtain ⟨F, hF⟩ : ∃ F, F = x.fuse - 1 := ⟨_, rfl⟩
      have qf : IntKind.i64.wrap (x.fuse - 1) = F := by rw [IntKind.wrap_i64]; omega
      rw [← hF] at HX
      clear HFu hF hf
      go_wp2_with (refine wpList_store_cell rfl _ _ _ rfl Tryz.dcIntSz w.heap.size 3 rfl (.int .i64 F) rfl rfl rfl _ _ Hc3.out (by show 3 < 7; omega) ?_)
      apply Stop.go; intro w4 Ho4 Hb4
      have Hc4 := Lib.hid (show Blk w4 w.heap.size 32 #[.slice Ab nb cb, .slice Al nl cl, .int .i64 (x.last : Int), .int .i64 F, .bool x.off, .int .i64 (x.wrote : Int), .slice Ak nk ck] from Hb4.out)
      have Hz4 := Lib.hid (Hz3.out.only Ho4.out (by have := Z.out; omega))
      have Hi4 := Lib.hid (Hi3.out.only Ho4.out (by have := Z.out; omega))
      have D4 := Lib.hid (bonly Hw3.out Ho4.out (Nat.le_refl _))
      have Z4 := Lib.hid (show w2.heap.size ≤ w4.heap.size by rw [Ho4.out.size]; exact D3.out.size)
      clear Hb4 Ho4 Hc3 Hz3 Hi3 D3 Hw3 c3 c4 qf df3)
    rotate_left
    focus (
      have df3 : decide (0 < x.fuse) = false := decide_eq_false hf
      have HFu : Hid ((if 0 < x.fuse then x.fuse - 1 else x.fuse) = x.fuse) := Lib.hid (if_neg hf)
      rw [HFu.out] at HX
      obtain ⟨F, hF⟩ : ∃ F, F = x.fuse := ⟨_, rfl⟩
      rw [← hF] at HX Hc3
      obtain ⟨w4, hw4⟩ : ∃ w4, w4 = w3 := ⟨_, rfl⟩
      subst hw4
      have Hc4 := Hc3
      have Hz4 := Hz3
      have Hi4 := Hi3
      have D4 := Hw3
      have Z4 := Lib.hid D3.out.size
      clear HFu hF hf Hc3 Hz3 Hi3 D3 Hw3)
    all_goals
      have hbl : x.base[k].length = 256 := HOk.out.bks _ (List.getElem_mem hkb)
      go_wp2_with (refine wpList_build0N rfl _ _ rfl Tryz.underlying28 1 Tryz.dcBytesSz ?_)
      apply Stop.go; intro w5 Hg5 Hb5
      have c0 := (Hc4.out.ext Hg5.out.1).seven.1
      have HBP := Lib.hid ((HQ.out.bp.monoP (p' := fun q => p q ∧ q ≠ w.heap.size ∧ q ≠ w1.heap.size) (fun q hq hpq => ⟨hpq, by have := Z.out; omega⟩)).below D4.out)
      go_wp2_with (at_builtin; refine wpList_append_copy (RdP RdBs (fun q => p q ∧ q ≠ w.heap.size ∧ q ≠ w1.heap.size)) (RdP.one RdBs.one) rfl _ _ _ _ rfl Tryz.underlying28 1 24 (.slice none 0 0) Tryz.dcBytes rfl (by decide) w4.heap.size rfl Hb5.out w4 _ nb cb x.base rfl H.out.hnb HBP.out Hg5.out.1 (Nat.le_refl _) (by omega) (by omega) ?_)
      apply Stop.go
      intro v6 w6 Ho6 Hb6
      obtain ⟨g, cap, cur, hv, hg, -, hn6, hm6, -, -⟩ := Ho6.out.blk1 (by omega)
      rw [H.out.hnb] at hv hn6
      subst hv
      have D46 := Lib.hid (Hg5.out.1.trans Hb6.out)
      have Hc6 := Lib.hid (Hc4.out.ext D46.out)
      have Hz6 := Lib.hid (Hz4.out.ext D46.out)
      have Hi6 := Lib.hid (Hi4.out.ext D46.out)
      have Hw6 := Lib.hid (bt D4.out D46.out)
      have HO6 := Lib.hid Ho6.out
      have Z6 := Lib.hid (show w4.heap.size ≤ w6.heap.size from D46.out.size)
      have HGB := Lib.hid (And.intro hg (And.intro hn6 hm6))
      obtain ⟨ad, Bk, cc, hAb, k0, qb1, qb2, hrb, hpb⟩ := HQ.out.bp.bytesP hkb
      have HPB := Lib.hid hpb
      have LB := Lib.hid (hrb.lowAll (by rw [hbl]; decide))
      have Hrb := Lib.hid (hrb.below Hw6.out)
      subst hAb
      rw [hbl] at k0 qb1
      have zk : (k : Int) < nb := by have := H.out.hnb; omega
      have K0 := Lib.hid ((D4.out.cell (block_lt_of_cell k0)).trans k0)
      have QB := Lib.hid (And.intro qb1 qb2)
      have HBL := Lib.hid hbl
      have HGN := Lib.hid (show w.heap.size + 2 ≤ w4.heap.size by have := Z.out; have := Z4.out; omega)
      obtain ⟨Ai4, ci4, ei4, _, _, hri4⟩ := Hi4.out.ints
      injection ei4 with ei4 eN eC
      subst ei4
      clear eN eC
      have RI4 := Lib.hid hri4
      clear hg hn6 hm6 qb1 qb2 hbl Hg5 Hb5 Hb6 Ho6 c0 hrb k0 HBP hri4
      clear hpb
      try clear c3 c4 df3
      go_wp2_with fail
      refine WH.start (S := fun w' : World => Below w4.heap.size w4 w') [false, false, false, false, false, false, false, false, false, false, false, false, false] 13 rfl rfl (by kernel_rfl) (bt D46.out (bdrew w6 1)) (fun hSn => ?_)
      obtain ⟨wS, hwS⟩ : ∃ q, w6.drew = q := ⟨_, rfl⟩
      have BS := Lib.hid (show Below w6.heap.size w6 wS by rw [← hwS]; exact bdrew w6 1)
      rw [hwS] at hSn ⊢
      clear hwS
      refine WH.tk 0 ?_; simp only [setL]
      refine WH.tk 1 ?_; simp only [setL]
      refine WH.tk 2 ?_; simp only [setL]
      refine WH.tv 3 rfl (fun w' hSw => exec_load_cell _ _ rfl _ rfl (.slice (some ad) nb cb) (Hc4.out.ext hSw).seven.1 _ Tryz.underlying28 rfl) ?_; simp only [setL]
      refine WH.tk 4 ?_; simp only [setL]
      refine WH.tk 5 ?_; simp only [setL]
      refine WH.tv 6 rfl (fun w' hSw => exec_load_cell _ _ rfl _ rfl (.slice Bk 256 cc) ((hSw.cell (block_lt_of_cell K0.out)).trans K0.out) _ Tryz.underlying56 rfl) ?_; simp only [setL]
      refine WH.tk 7 ?_; simp only [setL]
      refine WH.tv 8 rfl (fun w' hSw => exec_load_cell _ _ rfl _ rfl (.slice Al nl cl) (Hc4.out.ext hSw).seven.2.1 _ Tryz.underlying29 rfl) ?_; simp only [setL]
      refine WH.tk 9 ?_; simp only [setL]
      have CI := rimage10O_any Bk 256 cc x.base[k] HBL.out HBL.out QB.out.1 QB.out.2 Al nl cl x.list H.out.hnl (by omega) HN.out (k : Int) wS (Hrb.out.below BS.out) (H.out.list.below (bt Hw6.out BS.out))
      obtain ⟨V, hV⟩ : ∃ V, imageC x.base[k] x.list (k : Int) = V := ⟨_, rfl⟩
      rw [hV] at CI HX
      clear hV
      refine WH.only 10 _ rfl (by kernel_rfl) rfl (fun K hK => ?_); go_simp; refine (CI).mono ?_; rintro e w8 ⟨A8, n8, c8, rfl, hl8, p1, p2, hr8, hb8, ho8⟩; go_simp
      have B8 := Lib.hid (bt BS.out hb8)
      have NA := Lib.hid (show ∀ q, w.heap.size ≤ q → q < w6.heap.size → ∀ ad, A8 = some ad → ad.block ≠ q from fun q h1 h2 ad8 e => by
        rcases ho8 with h | h
        · have := LB.out ad8 (by rw [← h]; exact e); omega
        · have h3 := h ad8 e; have h4 := BS.out.size; omega)
      have PA := Lib.hid (show ∀ ad, A8 = some ad → p ad.block from fun ad8 e => by
        rcases ho8 with h | h
        · exact HPB.out (by rw [HBL.out]; decide) ad8 (by rw [← h]; exact e)
        · exact HP.out _ (by have h3 := h ad8 e; have h4 := BS.out.size; have h5 := Z6.out; have h6 := HGN.out; omega))
      have R8 := Lib.hid (And.intro hl8 (And.intro p1 (And.intro p2 hr8)))
      clear hb8 hl8 p1 p2 hr8 CI ho8
      have hSn := bt D46.out B8.out; refine hK _ _ hSn ?_; clear hK; clear K; simp only [setL]
      refine WH.tk 11 ?_; simp only [setL]
      have HO8 := HO6.out.ext B8.out
      obtain ⟨g', cap', cur', hv', hg', hbk8, hn8, _, hcs8, hset8⟩ := HO8.blk1 (by omega)
      injection hv' with e1 e2 e3
      injection e1 with e1
      injection e1 with e1 _ _
      subst e1
      subst e3
      clear e2
      have hcur : k < cur'.size := by omega
      have GL := Lib.hid (show g < w6.heap.size from (HO6.out.lt2 g rfl).2)
      refine WH.only 12 _ rfl (by kernel_rfl) rfl (fun K hK => ?_)
      refine ow_store_cell _ _ _ rfl Tryz.dcBytesSz g k rfl (.slice A8 n8 c8) rfl rfl rfl _ _ hbk8 hcur ?_
      apply Stop.go; intro w9 Ho9 Hb9
      have HGW : w.heap.size ≤ g := by have := HGN.out; omega
      have HO9 := Lib.hid (hset8 (w' := w9) (k := k) (u := .slice A8 n8 c8) (y := V) hkb Ho9.out Hb9.out ⟨⟨A8, c8, by rw [R8.out.1], by rw [R8.out.1]; exact R8.out.2.1, R8.out.2.2.1, RB.same R8.out.2.2.2 (fun _ ad8 e => Ho9.out.block ad8.block (NA.out g HGW GL.out ad8 e))⟩, fun q hq => by
        obtain ⟨ad8, e, rfl⟩ := blocks_one hq
        have h4 := HGN.out
        have h5 := Z6.out
        exact ⟨PA.out ad8 e, NA.out w.heap.size (Nat.le_refl _) (by omega) ad8 e, NA.out w1.heap.size (by have := Z.out; omega) (by have := Z.out; omega) ad8 e⟩⟩ (fun q hq => by
        obtain ⟨ad8, e, rfl⟩ := blocks_one hq
        exact NA.out g HGW GL.out ad8 e))
      have D9 := Lib.hid (bonly (bt Hw6.out B8.out) Ho9.out HGW)
      have D49 := Lib.hid (bonly (bt D46.out B8.out) Ho9.out hg')
      have Hc9 := Lib.hid (Hc4.out.below D49.out (by have := HGN.out; omega))
      have Hz9 := Lib.hid (Hz4.out.below D49.out (by have := HGN.out; have := Z.out; omega))
      have RI9 := Lib.hid (RI4.out.below D49.out)
      have ZG := Lib.hid (show w4.heap.size ≤ g from hg')
      have hSn := D49.out; refine hK _ _ hSn ?_; clear hK; clear K; simp only [setL]
      refine WH.done (by kernel_rfl) ?_
      clear hbk8 hset8 hcs8 hcur Ho9 Hb9 HO8 hg' hn8 HGW
      have c1 := Hc9.out.seven.2.1
      have hwr := HOk.out.wrote
      have hln := H.out.hnl
      obtain ⟨G, hG⟩ : ∃ G : Nat, G = x.wrote + 1 := ⟨_, rfl⟩
      have qw : IntKind.i64.wrap ((x.wrote : Int) + 1) = (G : Int) := by rw [IntKind.wrap_i64]; omega
      have HG := Lib.hid hG
      have HLN := Lib.hid (show nl ≤ 4096 by omega)
      clear hG hwr hln
      go_wp2_with fail
      refine (rwithoutP_any (fun q => p q ∧ q < w.heap.size) Al nl cl x.list H.out.hnl HLN.out Ai ni ci (readyC x.list (k : Int)) Hei.out (by omega) w9 (HL0.out.below D9.out) RI9.out).mono ?_; rintro e wa ⟨Aw, nw, cw, rfl, hlw, s1, s2, hrw, hfw, hbw⟩
      have La := Lib.hid (And.intro hlw (And.intro s1 s2))
      have Ra := Lib.hid hrw
      have Fa := Lib.hid (show ∀ ad, Aw = some ad → w4.heap.size ≤ ad.block from fun ad e => Nat.le_trans D49.out.size (hfw ad e))
      have Hca := Lib.hid (Hc9.out.ext hbw)
      have Hza := Lib.hid (Hz9.out.ext hbw)
      have HOa := Lib.hid (HO9.out.ext hbw)
      have Da := Lib.hid (bt D9.out hbw)
      clear hlw s1 s2 hrw hfw hbw Hc9 Hz9 HO9 D9 D49 RI9 c1
      go_wp2_with (refine wpList_store_cell rfl _ _ _ rfl Tryz.dcBaseSz w.heap.size 0 rfl (.slice (some ⟨g, 0, none⟩) nb cap) rfl rfl rfl _ _ Hca.out (by show 0 < 7; omega) ?_)
      apply Stop.go; intro wb Hob Hbb
      have Hcb := Lib.hid (show Blk wb w.heap.size 32 #[.slice (some ⟨g, 0, none⟩) nb cap, .slice Al nl cl, .int .i64 (x.last : Int), .int .i64 F, .bool x.off, .int .i64 (x.wrote : Int), .slice Ak nk ck] from Hbb.out)
      have Hzb := Lib.hid (Hza.out.only Hob.out (by have := Z.out; omega))
      have HOb := Lib.hid (HOa.out.onlyP Hob.out (fun q e => by have h := (HOa.out.lt2 q e).1; have := HGN.out; omega) (fun q hq => hq.2.1))
      have Rb := Lib.hid (Ra.out.onlyR Hob.out (fun h => by have := h.2; omega) (fun _ ad e => by have := Fa.out ad e; have := HGN.out; omega))
      have Db := Lib.hid (bonly Da.out Hob.out (Nat.le_refl _))
      clear Hob Hbb Hca Hza HOa Ra Da
      go_wp2_with (refine wpList_store_cell rfl _ _ _ rfl Tryz.dcListSz w.heap.size 1 rfl (.slice Aw nw cw) rfl rfl rfl _ _ Hcb.out (by show 1 < 7; omega) ?_)
      apply Stop.go; intro wd Hod Hbd
      have Hcd := Lib.hid (show Blk wd w.heap.size 32 #[.slice (some ⟨g, 0, none⟩) nb cap, .slice Aw nw cw, .int .i64 (x.last : Int), .int .i64 F, .bool x.off, .int .i64 (x.wrote : Int), .slice Ak nk ck] from Hbd.out)
      have Hzd := Lib.hid (Hzb.out.only Hod.out (by have := Z.out; omega))
      have HOd := Lib.hid (HOb.out.onlyP Hod.out (fun q e => by have h := (HOb.out.lt2 q e).1; have := HGN.out; omega) (fun q hq => hq.2.1))
      have Rd := Lib.hid (Rb.out.onlyR Hod.out (fun h => by have := h.2; omega) (fun _ ad e => by have := Fa.out ad e; have := HGN.out; omega))
      have Dd := Lib.hid (bonly Db.out Hod.out (Nat.le_refl _))
      clear Hod Hbd Hcb Hzb HOb Rb Db
      have c5 := Hcd.out.seven.2.2.2.2.2.1
      go_wp2_with (refine wpList_store_cell rfl _ _ _ rfl Tryz.dcIntSz w.heap.size 5 rfl (.int .i64 (G : Int)) rfl rfl rfl _ _ Hcd.out (by show 5 < 7; omega) ?_)
      apply Stop.go; intro we Hoe Hbe
      have Hce := Lib.hid (show Blk we w.heap.size 32 #[.slice (some ⟨g, 0, none⟩) nb cap, .slice Aw nw cw, .int .i64 (x.last : Int), .int .i64 F, .bool x.off, .int .i64 (G : Int), .slice Ak nk ck] from Hbe.out)
      have Hze := Lib.hid (Hzd.out.only Hoe.out (by have := Z.out; omega))
      have HOe := Lib.hid (HOd.out.onlyP Hoe.out (fun q e => by have h := (HOd.out.lt2 q e).1; have := HGN.out; omega) (fun q hq => hq.2.1))
      have Re := Lib.hid (Rd.out.onlyR Hoe.out (fun h => by have := h.2; omega) (fun _ ad e => by have := Fa.out ad e; have := HGN.out; omega))
      have De := Lib.hid (bonly Dd.out Hoe.out (Nat.le_refl _))
      clear Hoe Hbe Hcd Hzd HOd Rd Dd c5 qw
      go_wp2_with (first | refine wpList_load_blk rfl _ _ rfl _ rfl _ _ Hce.out _ Tryz.underlying32 rfl Tryz.dcSize ?_ | refine wpList_store_arr rfl _ _ _ rfl _ #[.slice (some ⟨g, 0, none⟩) nb cap, .slice Aw nw cw, .int .i64 (x.last : Int), .int .i64 F, .bool x.off, .int .i64 (G : Int), .slice Ak nk ck] rfl rfl _ _ Hze.out Tryz.dcSize rfl (by simp [Value.oneCell']) ?_)
      apply Stop.go; intro wf Hof Hbf
      go_wp2_with ((with_reducible show bodyPost _ _ _ _ _ _); refine bodyPost_struct_tmp rfl _ rfl _ _ Hbf.out _ Tryz.underlying32 rfl Tryz.dcSize rfl _ rfl ?_); apply Stop.go
      rw [HX.out.1, HX.out.2]
      have hG := HG.out
      subst hG
      have hwf := bonly De.out Hof.out (by have := Z.out; omega)
      have hv := H.out.below hwf
      have hk7 := (HOe.out.onlyP Hof.out (fun q e => by have h := (HOe.out.lt2 q e).1; have := HGN.out; have := Z.out; omega) (fun q hq => hq.2.2)).reads
      have hl7 := Re.out.onlyR Hof.out (fun h => by have := h.2; have := Z.out; omega) (fun _ ad e => by have := Fa.out ad e; have := HGN.out; have := Z.out; omega)
      exact ⟨_, _, _, _, _, _, _, _, _, rfl, ⟨⟨hk7.1, hk7.2.1, hv.hmb, hk7.2.2.2.ofP, La.out.1, La.out.2.1, by rw [← La.out.1]; exact Nat.le_trans (List.length_filter_le _ _) (by rw [H.out.hnl]; exact hv.hml), hl7.ofP, hv.hnk, hv.hck, hv.hmk, hv.knows, fun c hc => hv.need c (List.mem_filter.1 hc).1⟩, hk7.2.2.2.monoP (fun q _ hq => hq.1), hl7.monoP (fun q _ hq => hq.1), fun _ ad e => by injection e with e; subst e; exact HP.out g (by have := HGN.out; have := ZG.out; omega), fun _ ad e => HP.out _ (by have := Fa.out ad e; have := HGN.out; omega), HQ.out.k0⟩, hwf⟩

end Go.Proofs.YtpmbpklbiocclaaGreat
