/-
  Contracts over the page's example (works), and over the document's Go, whichever step it is.
-/
import Derived.Test.YtefienjcdchebaaLaw08
import Derived.Test.YtefienjcdchebaaRef08
namespace Go.Proofs.Ytefienjcdchebaa
open Go.RowKit

/-- The example's device, step by step. -/
def wd1 : Dev := (Dev.new 16).setFuse 1
def wd2 : Dev := wd1.write 3 (full 7)
def wd3 : Dev := wd2.write 4 (full 8)
theorem wd_facts : wd1.writeE 3 = 0 ∧ wd2.writeE 4 = 12 ∧ wd3.readE 3 = 12 ∧ (wd3.read 3).off = true ∧ (wd3.read 3).wr = 1 ∧ (wd3.read 3).bl.length = 16 ∧ wd1.wr = 0 ∧ wd2.wr = 1 ∧ wd3.rd = 0 := by
  refine ⟨rfl, rfl, rfl, rfl, rfl, rfl, rfl, rfl, rfl⟩

set_option maxHeartbeats 800000 in
/-- The page's example. -/
theorem works_any (w : World) : Calls Try.prog 7 #[] w fun e w' => e = .returned (.bool true) ∧ Below w.heap.size w w' := by
  obtain ⟨f1, f2, f3, f4, f5, f6, f7, f8, f9⟩ := wd_facts
  go_enter Try.func7, Try.ntmps7
  go_wp2_with (go_at_call 8; refine (dnew_any 16 (by decide) (by decide) _).mono ?_; rintro _ w1 ⟨b, g, rfl, hb, hg, hd, hbw⟩)
  have D1 := Lib.hid hd
  have B1 := Lib.hid hbw
  have Hbg := Lib.hid (And.intro hb hg)
  clear hb hg hd hbw
  go_wp2_with (go_at_call 20; refine (fuse_any b g 1 _ _ D1.out (by decide)).mono ?_; rintro _ w2 ⟨rfl, ho, hd⟩)
  have D2 : Hid (DV w2 b g wd1) := Lib.hid hd
  have T2 := Lib.hid (Turn.of_only ho g)
  clear ho hd
  go_wp2_with (go_at_call 12; refine (full_any 7 _).mono ?_; rintro _ w3 ⟨rfl, hb3⟩)
  have D3 := Lib.hid (D2.out.ext hb3)
  have T3 := Lib.hid (T2.out.bel hb3)
  clear hb3
  go_wp2_with (go_at_call 22; refine (write_any b g 3 _ (full_len 7) _ _ D3.out (by rw [f7]; decide)).mono ?_; rintro _ w4 ⟨rfl, ht, hd⟩)
  have D4 : Hid (DV w4 b g wd2) := Lib.hid hd
  have T4 := Lib.hid (T3.out.trans ht)
  clear ht hd
  go_wp2_with (go_at_call 12; refine (full_any 8 _).mono ?_; rintro _ w5 ⟨rfl, hb5⟩)
  have D5 := Lib.hid (D4.out.ext hb5)
  have T5 := Lib.hid (T4.out.bel hb5)
  clear hb5
  go_wp2_with (go_at_call 22; refine (write_any b g 4 _ (full_len 8) _ _ D5.out (by rw [f8]; decide)).mono ?_; rintro _ w6 ⟨rfl, ht, hd⟩)
  have D6 : Hid (DV w6 b g wd3) := Lib.hid hd
  have T6 := Lib.hid (T5.out.trans ht)
  clear ht hd
  go_wp2_with (first | (go_at_call 19; refine (DV.read b g _ _ D6.out 3 (by rw [f9]; decide)).mono ?_; rintro _ w7 ⟨rfl, ht7, hd7⟩; have D7 := Lib.hid hd7; have T7 := Lib.hid (T6.out.trans ht7); clear ht7 hd7) | refine wpList_alloc_row rfl _ rfl _ Try.blockZero ?_)
  apply Stop.go; intro w8 Hg8 Hb8
  have HRL := Lib.hid (Dev.readB_len D6.out.bks 3)
  go_wp2_with (refine wpList_store_arr rfl _ _ _ rfl _ _ rfl rfl _ _ Hb8.out (Try.blockFits HRL.out) (by rw [bcells_size, bcells_size, HRL.out, zeros_len]) (oneCell_bcells _) ?_)
  apply Stop.go; intro w9 Ho9 Hb9
  have L7 := D7.out.lt
  have D8 := D7.out.ext Hg8.out.1
  have D9 := Lib.hid (D8.turn (Turn.of_only Ho9.out w7.heap.size) (by omega) (by omega) (by omega) (by omega))
  have T9 := Lib.hid (((T7.out.bel Hg8.out.1)).new Ho9.out (by have := T7.out.size; omega))
  have DS9 := Lib.hid D9.out.ds
  have HD := Lib.hid (down_any b _ _ w9 D9.out.ds)
  have HW := Lib.hid (writes_any b _ _ w9 D9.out.ds)
  have HS := Lib.hid (size_any b _ _ _ _ w9 D9.out.ds)
  rw [f4] at HD
  rw [f5] at HW
  rw [f6] at HS
  clear L7 D8
  go_wp2_with (first | (go_at_call 13; refine HD.out.mono ?_; rintro _ _ ⟨rfl, rfl⟩) | (go_at_call 14; refine HW.out.mono ?_; rintro _ _ ⟨rfl, rfl⟩) | (go_at_call 16; refine HS.out.mono ?_; rintro _ _ ⟨rfl, rfl⟩))
  go_ret
  exact ⟨rfl, B1.out.trans (T9.out.low B1.out.size Hbg.out.1 Hbg.out.2)⟩

/-- The document's device as cells. -/
def Doc.cells (x : Doc) (ad : Addr) (c : Nat) : Array Value := xcells (some ad) x.l.length c x.fuse x.off x.wr x.rd
theorem Doc.go_len (x : Doc) (s : St3) : (x.go s).1.l.length = x.l.length := by
  unfold Doc.go
  (repeat' split) <;> first | rfl | simp
/-- Go: whichever step it is. -/
theorem rgo_any (x : Doc) (s : St3) (ad : Addr) (c : Nat) (w : World) (hr : RB w (some ad) x.l) (hm : x.l.length ≤ 512) (hc : x.l.length ≤ c ∧ c ≤ maxLen) (h0 : 0 ≤ s.do_) (h3 : s.do_ ≤ 3) (hf : x.fuse < 9223372036854775808) (hwr : x.wr < 4611686018427387904) (hrd : x.rd < 4611686018427387904) (hal : ad.block < w.heap.size) :
    Calls Try.prog 10 #[.agg (x.cells ad c), .agg #[.int .i64 s.do_, .int .i64 s.no, .int .u8 (s.b.toNat : Int)]] w fun e w' =>
      ∃ ad' c', e = .returned (.tuple #[.agg ((x.go s).1.cells ad' c'), .int .u8 ((x.go s).2.1.toNat : Int), .int .i64 (x.go s).2.2]) ∧ RB w' (some ad') (x.go s).1.l ∧ x.l.length ≤ c' ∧ c' ≤ maxLen ∧ (ad' = ad ∨ w.heap.size ≤ ad'.block) ∧ ad'.block < w'.heap.size ∧ Below w.heap.size w w' := by
  have hlt : ∀ w', Below w.heap.size w w' → ad.block < w'.heap.size := fun w' h => by have := h.size; omega
  unfold Doc.cells
  rw [Doc.go_len]
  unfold Doc.go
  have hw : s.do_ = 2 ∨ s.do_ = 3 ∨ (s.do_ ≠ 2 ∧ s.do_ ≠ 3 ∧ (s.do_ = 0 ∨ s.do_ = 1)) := by omega
  rcases hw with h | h | ⟨n2, n3, h01⟩
  · rw [if_pos h, h]
    refine (rgo_fuse (some ad) x.l.length c x.fuse x.wr x.rd s.no (s.b.toNat : Int) x.off w).mono ?_
    rintro e w' ⟨rfl, hb⟩
    exact ⟨ad, c, rfl, hr.below hb, hc.1, hc.2, Or.inl rfl, hlt w' hb, hb⟩
  · rw [if_neg (by omega), if_pos h, h]
    refine (rgo_up (some ad) x.l.length c x.fuse x.wr x.rd s.no (s.b.toNat : Int) x.off w).mono ?_
    rintro e w' ⟨rfl, hb⟩
    exact ⟨ad, c, rfl, hr.below hb, hc.1, hc.2, Or.inl rfl, hlt w' hb, hb⟩
  · rw [if_neg n2, if_neg n3]
    cases ho : x.off
    · rw [if_neg (by decide)]
      by_cases hno : s.no < 0 ∨ (x.l.length : Int) ≤ s.no
      · rw [if_pos hno]
        refine (rgo_range (some ad) x.l.length c x.fuse x.wr x.rd s.no (s.b.toNat : Int) w s.do_ n2 n3 (by omega)).mono ?_
        rintro e w' ⟨rfl, hb⟩
        exact ⟨ad, c, by rw [ho]; rfl, hr.below hb, hc.1, hc.2, Or.inl rfl, hlt w' hb, hb⟩
      · rw [if_neg hno]
        obtain ⟨i, hi⟩ := Int.eq_ofNat_of_zero_le (show 0 ≤ s.no by omega)
        have hil : i < x.l.length := by omega
        rcases h01 with h | h
        · rw [if_pos h, h, hi]
          refine (rgo_read x.l.length c x.fuse x.wr x.rd (s.b.toNat : Int) w ad i x.l rfl hil hr (by omega)).mono ?_
          rintro e w' ⟨rfl, hb⟩
          refine ⟨ad, c, ?_, hr.below hb, hc.1, hc.2, Or.inl rfl, hlt w' hb, hb⟩
          simp [List.getElem?_eq_getElem hil]
        · rw [if_neg (by omega)]
          by_cases hz : x.fuse = 0
          · rw [if_pos hz, h, hi, hz]
            refine (rgo_zero (some ad) x.l.length c x.wr x.rd (s.b.toNat : Int) w i hil).mono ?_
            rintro e w' ⟨rfl, hb⟩
            refine ⟨ad, c, ?_, hr.below hb, hc.1, hc.2, Or.inl rfl, hlt w' hb, hb⟩
            simp
          · rw [if_neg hz, h, hi]
            refine (rgo_write x.l.length c x.fuse x.wr x.rd w ad i s.b x.l rfl hil hm hr (by omega) hz hf).mono ?_
            rintro e w' ⟨g, c', rfl, hrb, g1, g2, g3, g4, hb⟩
            refine ⟨⟨g, 0, none⟩, c', ?_, ?_, g3, g4, Or.inr g1, g2, hb⟩
            · simp
            · simpa using hrb
    · rw [if_pos rfl]
      refine (rgo_off (some ad) x.l.length c x.fuse x.wr x.rd s.no (s.b.toNat : Int) w s.do_ n2 n3).mono ?_
      rintro e w' ⟨rfl, hb⟩
      exact ⟨ad, c, by rw [ho]; rfl, hr.below hb, hc.1, hc.2, Or.inl rfl, hlt w' hb, hb⟩

end Go.Proofs.Ytefienjcdchebaa
