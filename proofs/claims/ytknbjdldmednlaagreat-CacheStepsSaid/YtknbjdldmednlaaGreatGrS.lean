/-
  Texts of this claim joined: Ref10, Ref10b.
-/
import Derived.Test.YtknbjdldmednlaaGreatGrR
import Derived.Test.YtknbjdldmednlaaGreatR09f
import Derived.Test.YtknbjdldmednlaaGreatGrA

/-
  Contracts of the document's answer 10: Laid, View, Image, Held.
-/
namespace Go.Proofs.YtknbjdldmednlaaGreat
open Go.RowKit

/-- Which changes of a block are laid: all, or those of a list of IDs. -/
def pickF (block : Int) (ids : List Int) (all : Bool) (c : Cg) : Bool := decide (c.block = block) && (all || ids.contains c.id)
theorem laid_on {L : List UInt8} {l : List Cg} {f : Cg → Bool} {k : Nat} (hk : k < l.length) (h : f l[k] = true) : laidC L ((l.take (k + 1)).filter f) = layP (laidC L ((l.take k).filter f)) l[k].p := by
  rw [List.take_succ_eq_append_getElem hk, List.filter_append, laidC_append, List.filter_cons_of_pos h]
  rfl
theorem laid_off {L : List UInt8} {l : List Cg} {f : Cg → Bool} {k : Nat} (hk : k < l.length) (h : f l[k] = false) : laidC L ((l.take (k + 1)).filter f) = laidC L ((l.take k).filter f) := by
  rw [List.take_succ_eq_append_getElem hk, List.filter_append, List.filter_cons_of_neg (by simp [h])]
  simp
theorem pickF_ids (l : List Cg) (block : Int) (ids : List Int) : l.filter (pickF block ids false) = (ofC l block).filter fun c => ids.contains c.id := by
  unfold ofC
  rw [List.filter_filter]
  apply List.filter_congr
  intro c _
  simp [pickF, Bool.and_comm]

set_option maxRecDepth 100000 in
set_option maxHeartbeats 4000000 in
theorem rlaid10O_any (B : Option Addr) (nb cb : Nat) (L : List UInt8) (hL : L.length = 256) (hnb : L.length = nb) (hcb : nb ≤ cb) (hmb : cb ≤ maxLen) (A : Option Addr) (n cap : Nat) (l : List Cg) (hn : l.length = n) (hm : n ≤ 4096) (block : Int) (Ai : Option Addr) (ni ci : Nat) (ids : List Int) (hni : ids.length = ni) (hmi : ni ≤ 4096) (all : Bool) (w : World) (hb : RB w B L) (hr : RdL RdC w A 5 l) (hri : RC w Ai (ivals ids)) :
    Calls Tryz.prog 80 #[.slice B nb cb, .slice A n cap, .int .i64 block, .slice Ai ni ci, .bool all] w (RetBO w B (laidC L (l.filter (pickF block ids all)))) := by
  have HL := Lib.hid hL
  have Hn := Lib.hid hn
  have Hr := Lib.hid hr
  have Hb := Lib.hid hb
  have Hnb := Lib.hid hnb
  have Hni := Lib.hid hni
  have Hri := Lib.hid hri
  clear hL hn hr hb hnb hni hri
  go_enter Tryz.func80, Tryz.ntmps80
  go_wp2_with fail
  go_loopw [0, 11] (fun v i wr => ∃ (k : Nat) (B' : Option Addr) (nb' cb' : Nat), k ≤ n ∧ i = .int .i64 k ∧ v = .slice B' nb' cb' ∧ (laidC L ((l.take k).filter (pickF block ids all))).length = nb' ∧ nb' ≤ cb' ∧ cb' ≤ maxLen ∧ RB wr B' (laidC L ((l.take k).filter (pickF block ids all))) ∧ Below w.heap.size w wr ∧ (B' = B ∨ ∀ ad, B' = some ad → w.heap.size ≤ ad.block)) (fun _ i _ => n - (intOf i).toNat)
  case atStart => exact ⟨0, B, nb, cb, Nat.zero_le _, rfl, rfl, Hnb.out, hcb, hmb, Hb.out, Below.refl _ _, Or.inl rfl⟩
  case round =>
    obtain ⟨k, B', nb', cb', hk, rfl, rfl, hl, hc1, hc2, hb', hbw, hor⟩ := hrel
    have Hl := Lib.hid hl
    have Hb' := Lib.hid hb'
    have Hbw := Lib.hid hbw
    have Hc := Lib.hid (show nb' ≤ cb' ∧ cb' ≤ maxLen from ⟨hc1, hc2⟩)
    have HO := Lib.hid hor
    clear hl hb' hbw hc1 hc2 hor
    by_cases hlt : k < n
    · have d0 : decide ((k : Int) < n) = true := by simpa using hlt
      have hkl : k < l.length := by rw [Hn.out]; exact hlt
      have z1 : (k : Int) < n := by omega
      obtain ⟨ad, Ad, nd, cd, An, nn, cn, rfl, hcv, h0, h1, h2, h3, -⟩ := Hr.out.cg hkl
      have Hon := Lib.hid (laid_on (L := L) (f := pickF block ids all) hkl)
      have Hoff := Lib.hid (laid_off (L := L) (f := pickF block ids all) hkl)
      have HM := Lib.hid (laidC_len ((l.take k).filter (pickF block ids all)) HL.out)
      have tr := fun {ad : Addr} {v : Value} (h : w.cell? ad = some v) => (Hbw.out.cell (block_lt_of_cell h)).trans h
      have c0 := tr h0
      have c1 := cell_fld c0 (tr h1)
      have F2 := Lib.hid (cell_fld c0 (tr h2))
      have F3 := Lib.hid (cell_fld1 c0 (tr h3))
      have Hcv := Lib.hid (hcv.below Hbw.out)
      clear h0 h1 h2 h3 hcv tr
      have Hpk : pickF block ids all l[k] = (decide (l[k].block = block) && (all || ids.contains l[k].id)) := rfl
      generalize pickF block ids all l[k] = pk at *
      generalize l[k] = c at *
      generalize laidC L ((l.take k).filter (pickF block ids all)) = M at *
      clear hkl
      obtain ⟨b, hbb⟩ : ∃ b, ids.contains c.id = b := ⟨_, rfl⟩
      rw [hbb] at Hpk
      have HBB := Lib.hid hbb
      clear hbb
      have Hpk := Lib.hid Hpk
      by_cases hb : c.block = block
      · have e1 : (c.block == block) = true := by simpa using hb
        have HP := Lib.hid (show pk = (all || b) by rw [Hpk.out, decide_eq_true hb]; rfl)
        clear hb
        cases all
        · go_wp2_with fail
          refine (rin9_is Ai ni ci ids Hni.out (by unfold maxLen; omega) c.id b HBB.out _ (Hri.out.below Hbw.out)).mono ?_; rintro e wx ⟨rfl, rfl⟩
          cases b
          · have HX := Lib.hid (Hoff.out HP.out)
            go_wp2_with fail
            go_roundw
            case rel => exact ⟨k + 1, B', nb', cb', by omega, by go_num, rfl, by rw [HX.out]; exact Hl.out, Hc.out.1, Hc.out.2, by rw [HX.out]; exact Hb'.out, Hbw.out, HO.out⟩
            case measure => simp [intOf]; omega
          · have HX := Lib.hid (Hon.out HP.out)
            go_wp2_with (refine wpList_load_pair rfl _ _ rfl ⟨(ad.add (k * 5)).block, (ad.add (k * 5)).off + 2, none⟩ rfl (.int .i64 c.p.at_) (.slice Ad nd cd) F2.out F3.out _ Tryz.underlying39 Tryz.rpatchSize ?_)
            refine (rlaypO_any B' nb' cb' M HM.out Hl.out Hc.out.1 Hc.out.2 c.p Ad nd cd _ Hb'.out Hcv.out.p).mono ?_; rintro e w2 ⟨B2, n2, c2, rfl, h1, h2, h3, h4, h5, h6⟩
            have H1 := Lib.hid h1
            have H4 := Lib.hid h4
            have H5 := Lib.hid (bt Hbw.out h5)
            have H2 := Lib.hid (show n2 ≤ c2 ∧ c2 ≤ maxLen from ⟨h2, h3⟩)
            have HO2 := Lib.hid (show B2 = B ∨ ∀ ad, B2 = some ad → w.heap.size ≤ ad.block from by
              rcases h6 with h6 | h6
              · rw [h6]; exact HO.out
              · exact Or.inr fun ad e => Nat.le_trans Hbw.out.size (h6 ad e))
            clear h1 h2 h3 h4 h5 h6
            go_wp2_with fail
            go_roundw
            case rel => exact ⟨k + 1, B2, n2, c2, by omega, by go_num, rfl, by rw [HX.out]; exact H1.out, H2.out.1, H2.out.2, by rw [HX.out]; exact H4.out, H5.out, HO2.out⟩
            case measure => simp [intOf]; omega
        · have HX := Lib.hid (Hon.out HP.out)
          go_wp2_with (refine wpList_load_pair rfl _ _ rfl ⟨(ad.add (k * 5)).block, (ad.add (k * 5)).off + 2, none⟩ rfl (.int .i64 c.p.at_) (.slice Ad nd cd) F2.out F3.out _ Tryz.underlying39 Tryz.rpatchSize ?_)
          refine (rlaypO_any B' nb' cb' M HM.out Hl.out Hc.out.1 Hc.out.2 c.p Ad nd cd _ Hb'.out Hcv.out.p).mono ?_; rintro e w2 ⟨B2, n2, c2, rfl, h1, h2, h3, h4, h5, h6⟩
          have H1 := Lib.hid h1
          have H4 := Lib.hid h4
          have H5 := Lib.hid (bt Hbw.out h5)
          have H2 := Lib.hid (show n2 ≤ c2 ∧ c2 ≤ maxLen from ⟨h2, h3⟩)
          have HO2 := Lib.hid (show B2 = B ∨ ∀ ad, B2 = some ad → w.heap.size ≤ ad.block from by
            rcases h6 with h6 | h6
            · rw [h6]; exact HO.out
            · exact Or.inr fun ad e => Nat.le_trans Hbw.out.size (h6 ad e))
          clear h1 h2 h3 h4 h5 h6
          go_wp2_with fail
          go_roundw
          case rel => exact ⟨k + 1, B2, n2, c2, by omega, by go_num, rfl, by rw [HX.out]; exact H1.out, H2.out.1, H2.out.2, by rw [HX.out]; exact H4.out, H5.out, HO2.out⟩
          case measure => simp [intOf]; omega
      · have e1 : (c.block == block) = false := by simpa using hb
        have HX := Lib.hid (Hoff.out (by rw [Hpk.out, decide_eq_false hb]; rfl))
        clear hb
        go_wp2_with fail
        go_roundw
        case rel => exact ⟨k + 1, B', nb', cb', by omega, by go_num, rfl, by rw [HX.out]; exact Hl.out, Hc.out.1, Hc.out.2, by rw [HX.out]; exact Hb'.out, Hbw.out, HO.out⟩
        case measure => simp [intOf]; omega
    · have d0 : decide ((k : Int) < n) = false := by simpa using hlt
      have e1 : l.take k = l := List.take_of_length_le (by rw [Hn.out]; omega)
      rw [e1] at Hl Hb'
      clear e1
      go_wp2_with fail
      go_ret
      exact ⟨_, _, _, rfl, Hl.out, Hc.out.1, Hc.out.2, Hb'.out, Hbw.out, HO.out⟩

end Go.Proofs.YtknbjdldmednlaaGreat

/-
  Contracts of the document's answer 10: View, Image, Held.
-/
namespace Go.Proofs.YtknbjdldmednlaaGreat
open Go.RowKit


set_option maxRecDepth 100000 in
set_option maxHeartbeats 4000000 in
theorem rimage10O_any (B : Option Addr) (nb cb : Nat) (L : List UInt8) (hL : L.length = 256) (hnb : L.length = nb) (hcb : nb ≤ cb) (hmb : cb ≤ maxLen) (A : Option Addr) (n cap : Nat) (l : List Cg) (hn : l.length = n) (hm : n ≤ 4096) (hN : ∀ c ∈ l, c.needs.length ≤ 4096) (block : Int) (w : World) (hb : RB w B L) (hr : RdL RdC w A 5 l) :
    Calls Tryz.prog 62 #[.slice B nb cb, .slice A n cap, .int .i64 block] w (RetBO w B (imageC L l block)) := by
  have Hv := Lib.hid (show imageC L l block = laidC L (l.filter (pickF block (readyC l block) false)) by rw [pickF_ids]; rfl)
  have Hlen := Lib.hid (show (readyC l block).length ≤ 4096 by have h := (readyC_sub (l := l) (block := block)).length_le; rw [List.length_map] at h; omega)
  generalize imageC L l block = V at *
  have Hn := Lib.hid hn
  have Hr := Lib.hid hr
  have Hb := Lib.hid hb
  have Hnb := Lib.hid hnb
  have HN := Lib.hid hN
  clear hn hr hb hnb hN
  go_enter Tryz.func62, Tryz.ntmps62
  go_wp2_with fail
  refine (rready9_any A n cap l Hn.out hm HN.out block _ Hr.out).mono ?_; rintro e w2 ⟨Ai, ni, ci, rfl, g1, g2, g3, g4, g5⟩
  have G1 := Lib.hid g1
  have G4 := Lib.hid g4
  have Hb2 := Lib.hid g5
  clear g1 g2 g3 g4 g5
  generalize readyC l block = ids at *
  go_wp2_with fail
  refine (rlaid10O_any B nb cb L hL Hnb.out hcb hmb A n cap l Hn.out hm block Ai ni ci ids G1.out (by have := Hlen.out; have := G1.out; omega) false _ (Hb.out.below Hb2.out) (Hr.out.below Hb2.out) G4.out).mono ?_; rintro e w3 ⟨B2, n2, c2, rfl, h1, h2, h3, h4, h5, h6⟩
  have H1 := Lib.hid h1
  have H4 := Lib.hid h4
  have H5 := Lib.hid (bt Hb2.out h5)
  have H2 := Lib.hid (show n2 ≤ c2 ∧ c2 ≤ maxLen from ⟨h2, h3⟩)
  have HO := Lib.hid (show B2 = B ∨ ∀ ad, B2 = some ad → w.heap.size ≤ ad.block from h6.imp id fun h ad e => Nat.le_trans Hb2.out.size (h ad e))
  clear h1 h2 h3 h4 h5 h6
  go_wp2_with fail
  go_ret
  exact ⟨_, _, _, rfl, by rw [Hv.out]; exact H1.out, H2.out.1, H2.out.2, by rw [Hv.out]; exact H4.out, H5.out, HO.out⟩




end Go.Proofs.YtknbjdldmednlaaGreat
