/-
  Contracts of package graph's find and place (a search among changes whose IDs rise).
-/
import Derived.Test.YtpmbpklbiocclaaGreatGrAG
import Derived.Test.YtpmbpklbiocclaaGreatGrAH
import Derived.Test.YtpmbpklbiocclaaGreatGrBG
namespace Go.Proofs.YtpmbpklbiocclaaGreat
open Go.RowKit

set_option maxHeartbeats 400000 in
theorem gf1_any (c : Cg) (Ad : Option Addr) (nd cd : Nat) (An : Option Addr) (nn cn : Nat) (id : Int) (w : World) :
    Calls Tryz.prog 133 #[.agg #[.int .i64 c.id, .int .i64 c.block, .int .i64 c.p.at_, .slice Ad nd cd, .slice An nn cn], .int .i64 id] w fun e w' => e = .returned (.int .i64 (cmpZ c.id id)) ∧ Below w.heap.size w w' := by
  go_enter Tryz.func133, Tryz.ntmps133
  go_wp2_with (refine wpList_box_row rfl _ _ rfl _ rfl ?_)
  apply Stop.go; intro w1 Hg1 Hb1
  have c0 : w1.cell? ⟨w.heap.size, 0, none⟩ = some (.int .i64 c.id) := Hb1.out.cell 0
  go_wp2_with fail
  refine (cmpInt_any c.id id _).mono ?_; rintro e w2 ⟨rfl, rfl⟩
  go_wp2_with fail
  go_ret
  exact ⟨rfl, Hg1.out.1⟩

set_option maxRecDepth 100000 in
set_option maxHeartbeats 4000000 in
theorem gbsf_any (A : Option Addr) (n c : Nat) (l : List Cg) (hn : l.length = n) (hm : n ≤ 4096) (id : Int) (hrise : mayC l = true) (w : World) (hr : RdL RdC w A 5 l) :
    Calls Tryz.prog 132 #[.slice A n c, .int .i64 id, .func (.func 133) #[] #[]] w fun e w' => ∃ (p : Nat) (b : Bool), e = .returned (.tuple #[.int .i64 p, .bool b]) ∧ Found l id p b ∧ Below w.heap.size w w' := by
  have Hn := Lib.hid hn
  have Hr := Lib.hid hr
  have HS := Lib.hid (mayC_rise hrise)
  clear hn hr hrise
  go_enter Tryz.func132, Tryz.ntmps132
  go_wp2_with fail
  go_loopg [9, 10] n (fun g s9 s10 wr => ∃ lo hi : Nat, s9 = .int .i64 lo ∧ s10 = .int .i64 hi ∧ lo ≤ hi ∧ hi ≤ n ∧ hi - lo ≤ g ∧ Below w.heap.size w wr ∧ (∀ t (h : t < l.length), t < lo → l[t].id < id) ∧ (∀ t (h : t < l.length), hi ≤ t → id ≤ l[t].id))
  case atStart => exact ⟨0, n, rfl, rfl, Nat.zero_le _, Nat.le_refl _, by omega, Below.refl _ _, fun t _ ht => absurd ht (Nat.not_lt_zero _), fun t h1 h2 => by have := Hn.out; omega⟩
  case round =>
    obtain ⟨lo, hi, rfl, rfl, hlh, hin, hg, hbw, h1, h2⟩ := hrel
    have Hbw := Lib.hid hbw
    have I1 := Lib.hid h1
    have I2 := Lib.hid h2
    clear h1 h2 hbw
    by_cases hlt : lo < hi
    · obtain ⟨s, h, u1, u2, -, q2, q3, q4, q5⟩ := half_uint lo hi hlt (by omega)
      obtain ⟨h', hh'⟩ : ∃ h', h' = h + 1 := ⟨_, rfl⟩
      have HH := Lib.hid (show h' = h + 1 ∧ lo ≤ h ∧ h < hi ∧ h < n by clear q2 q3 q4 q5; omega)
      have q6 : IntKind.i64.wrap ((h : Int) + 1) = h' := by clear q2 q3 q4 q5; have := HH.out; rw [IntKind.wrap_i64]; omega
      have z1 : (h : Int) < n := by clear q2 q3 q4 q5; have := HH.out; omega
      have d0 : decide (lo < hi) = true := by simpa using hlt
      have Hlh := Lib.hid (And.intro hin hg)
      clear hh'
      have hhl : h < l.length := by clear q2 q3 q4 q5; have := HH.out; have := Hn.out; omega
      obtain ⟨ad, Ad, nd, cd, An, nn, cn, rfl, hcv, h0, h1, h2, h3, h4⟩ := (Hr.out.below Hbw.out).cg hhl
      have C0 := Lib.hid h0
      have C1 := Lib.hid h1
      have C2 := Lib.hid h2
      have C3 := Lib.hid h3
      have C4 := Lib.hid h4
      have HX := Lib.hid (fun t (ht : t < l.length) => (⟨fun hlt => HS.out t h hlt hhl, fun hlt => HS.out h t hlt ht⟩ : (t < h → l[t].id < l[h].id) ∧ (h < t → l[h].id < l[t].id)))
      have HE := Lib.hid (show ∀ t (ht : t < l.length), t = h → l[t].id = l[h].id from fun t ht e => by subst e; rfl)
      clear h0 h1 h2 h3 h4 hcv
      generalize l[h] = x at *
      clear hhl
      by_cases hx : x.id < id
      · have Hx := Lib.hid hx
        have e1 := cmpZ_lt hx
        clear hx u1 u2 hlt
        go_wp2_with (refine wpList_load_five rfl _ _ rfl (ad.add (h * 5)) rfl _ _ _ _ _ C0.out C1.out C2.out C3.out C4.out _ Tryz.underlying88 Tryz.chgSize ?_)
        refine (gf1_any x Ad nd cd An nn cn id _).mono ?_; rintro e w2 ⟨rfl, hb2⟩
        rw [e1]
        have Hb2 := Lib.hid hb2
        clear hb2 e1
        go_wp2_with fail
        clear q2 q3 q4 q5 q6
        go_roundg (hi - h')
        case measure => have := HH.out; have := Hlh.out; omega
        case rel =>
          refine ⟨h', hi, rfl, rfl, by have := HH.out; omega, Hlh.out.1, Nat.le_refl _, bt Hbw.out Hb2.out, fun t ht hth => ?_, I2.out⟩
          by_cases hc : t = h
          · rw [HE.out t ht hc]; exact Hx.out
          · have := (HX.out t ht).1 (by have := HH.out; omega)
            have := Hx.out
            omega
      · have Hx := Lib.hid hx
        have e1 : cmpZ x.id id = 0 ∨ cmpZ x.id id = 1 := by
          by_cases he : x.id = id
          · left; rw [he]; exact cmpZ_eq id
          · right; exact cmpZ_gt (by omega)
        clear hx u1 u2 hlt
        rcases e1 with e1 | e1
        all_goals
          go_wp2_with (refine wpList_load_five rfl _ _ rfl (ad.add (h * 5)) rfl _ _ _ _ _ C0.out C1.out C2.out C3.out C4.out _ Tryz.underlying88 Tryz.chgSize ?_)
          refine (gf1_any x Ad nd cd An nn cn id _).mono ?_; rintro e w2 ⟨rfl, hb2⟩
          rw [e1]
          have Hb2 := Lib.hid hb2
          clear hb2 e1
          go_wp2_with fail
          clear q2 q3 q4 q5 q6
          go_roundg (h - lo)
          case measure => have := HH.out; have := Hlh.out; omega
          case rel =>
            refine ⟨lo, h, rfl, rfl, HH.out.2.1, by have := HH.out; omega, Nat.le_refl _, bt Hbw.out Hb2.out, I1.out, fun t ht hth => ?_⟩
            by_cases hc : t = h
            · rw [HE.out t ht hc]; have := Hx.out; omega
            · have := (HX.out t ht).2 (by omega)
              have := Hx.out
              omega
    · have d0 : decide (lo < hi) = false := by simpa using hlt
      have : hi = lo := by omega
      subst this
      by_cases hln : hi < n
      · have hhl : hi < l.length := by have := Hn.out; omega
        have d1 : decide (hi < n) = true := by simpa using hln
        have z1 : (hi : Int) < n := by omega
        obtain ⟨ad, Ad, nd, cd, An, nn, cn, rfl, hcv, h0, h1, h2, h3, h4⟩ := (Hr.out.below Hbw.out).cg hhl
        have C0 := Lib.hid h0
        have C1 := Lib.hid h1
        have C2 := Lib.hid h2
        have C3 := Lib.hid h3
        have C4 := Lib.hid h4
        clear h0 h1 h2 h3 h4 hcv
        by_cases he : l[hi].id = id
        · have HF := Lib.hid (show Found l id hi true from ⟨fun _ => ⟨hhl, he⟩, fun h => by cases h⟩)
          have e1 : cmpZ l[hi].id id = 0 := by rw [he]; exact cmpZ_eq id
          clear he
          generalize l[hi] = x at *
          clear hlt hln
          go_wp2_with (refine wpList_load_five rfl _ _ rfl (ad.add (hi * 5)) rfl _ _ _ _ _ C0.out C1.out C2.out C3.out C4.out _ Tryz.underlying88 Tryz.chgSize ?_)
          refine (gf1_any x Ad nd cd An nn cn id _).mono ?_; rintro e w2 ⟨rfl, hb2⟩
          rw [e1]
          have Hb2 := Lib.hid hb2
          clear hb2 e1
          go_wp2_with fail
          go_ret2
          exact ⟨hi, true, rfl, HF.out, bt Hbw.out Hb2.out⟩
        · have HF := Lib.hid (show Found l id hi false from ⟨fun h => by (cases h), fun _ c hc => by
            obtain ⟨t, ht, rfl⟩ := List.getElem_of_mem hc
            have i2 := I2.out hi hhl (Nat.le_refl _)
            by_cases h1 : t < hi
            · have := I1.out t ht h1; omega
            · by_cases h2 : t = hi
              · subst h2; exact he
              · have := HS.out hi t (by omega) ht
                omega⟩)
          have e1 : cmpZ l[hi].id id = 1 := cmpZ_gt (by have := I2.out hi hhl (Nat.le_refl _); omega)
          clear he
          generalize l[hi] = x at *
          clear hlt hln
          go_wp2_with (refine wpList_load_five rfl _ _ rfl (ad.add (hi * 5)) rfl _ _ _ _ _ C0.out C1.out C2.out C3.out C4.out _ Tryz.underlying88 Tryz.chgSize ?_)
          refine (gf1_any x Ad nd cd An nn cn id _).mono ?_; rintro e w2 ⟨rfl, hb2⟩
          rw [e1]
          have Hb2 := Lib.hid hb2
          clear hb2 e1
          go_wp2_with fail
          go_ret2
          exact ⟨hi, false, rfl, HF.out, bt Hbw.out Hb2.out⟩
      · have d1 : decide (hi < n) = false := by simpa using hln
        have HF := Lib.hid (show Found l id hi false from ⟨fun h => by (cases h), fun _ c hc => by
          obtain ⟨t, ht, rfl⟩ := List.getElem_of_mem hc
          have := I1.out t ht (by have := Hn.out; omega)
          omega⟩)
        clear hlt hln
        go_wp2_with fail
        go_ret2
        exact ⟨hi, false, rfl, HF.out, Hbw.out⟩

theorem gfind_any (A : Option Addr) (n c : Nat) (l : List Cg) (hn : l.length = n) (hm : n ≤ 4096) (id : Int) (hrise : mayC l = true) (w : World) (hr : RdL RdC w A 5 l) :
    Calls Tryz.prog 103 #[.slice A n c, .int .i64 id] w fun e w' => ∃ (p : Nat) (b : Bool), e = .returned (.tuple #[.int .i64 p, .bool b]) ∧ Found l id p b ∧ Below w.heap.size w w' := by
  have HC := Lib.hid (gbsf_any A n c l hn hm id hrise w hr)
  clear hn hr hrise hm
  go_enter Tryz.func103, Tryz.ntmps103
  go_wp2_with fail
  refine (HC.out).mono ?_; rintro e w2 ⟨p, b, rfl, hf, hb2⟩
  go_wp2_with fail
  go_ret2
  exact ⟨p, b, rfl, hf, hb2⟩

set_option maxRecDepth 100000 in
set_option maxHeartbeats 1600000 in
theorem gplace_any (A : Option Addr) (n c : Nat) (l : List Cg) (hn : l.length = n) (hm : n ≤ 4096) (id : Int) (w : World) (hr : RdL RdC w A 5 l) :
    Calls Tryz.prog 72 #[.slice A n c, .int .i64 id] w fun e w' => ∃ (p : Nat) (b : Bool), e = .returned (.tuple #[.int .i64 p, .bool b]) ∧ (b = true → mayC l = true ∧ ∃ h : p < l.length, l[p].id = id) ∧ (b = false → mayC l = false ∨ ¬ HasId l id) ∧ Below w.heap.size w w' := by
  have HC := Lib.hid (chk_any A n c l hn hm w hr)
  have Hr := Lib.hid hr
  clear hr
  cases hmay : mayC l
  · rw [chkI_no hmay] at HC
    clear hn
    go_enter Tryz.func72, Tryz.ntmps72
    go_wp2_with fail
    refine (HC.out).mono ?_; rintro e w2 ⟨rfl, hb2⟩
    go_wp2_with fail
    go_ret2
    exact ⟨0, false, rfl, fun h => (by cases h), fun _ => Or.inl (by first | rfl | trivial), hb2⟩
  · rw [chkI_yes hmay] at HC
    have HF := fun w' (hb : Below w.heap.size w w') => gfind_any A n c l hn hm id hmay w' (Hr.out.below hb)
    have HFF := Lib.hid HF
    clear HF hn
    go_enter Tryz.func72, Tryz.ntmps72
    go_wp2_with fail
    refine (HC.out).mono ?_; rintro e w2 ⟨rfl, hb2⟩
    have Hb2 := Lib.hid hb2
    clear hb2
    go_wp2_with fail
    refine (HFF.out _ Hb2.out).mono ?_; rintro e w3 ⟨p, b, rfl, hf, hb3⟩
    go_wp2_with fail
    go_ret2
    exact ⟨p, b, rfl, fun h => ⟨by first | rfl | trivial, hf.1 h⟩, fun h => Or.inr fun ⟨c, hc, e⟩ => hf.2 h c hc e, bt Hb2.out hb3⟩

end Go.Proofs.YtpmbpklbiocclaaGreat
