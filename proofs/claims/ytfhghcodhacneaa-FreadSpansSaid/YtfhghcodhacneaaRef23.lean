/-
  The document's answer of layer 23: Spans.
-/
import Derived.Test.YtfhghcodhacneaaFrd1
import Derived.Test.YtfhghcodhacneaaHeldT
import Derived.Test.YtfhghcodhacneaaPatO
import Derived.Test.YtfhghcodhacneaaIx1
namespace Go.Proofs.Ytfhghcodhacneaa
open Go.RowKit
set_option maxRecDepth 10000

/-- The last row's last number stored anew. -/
theorem OwnN.last {w : World} {B : Nat} {e : TypeId} {v : Value} {M : List (List Int)} {a b x : Int} (h : OwnN w B e 3 v (irows (M ++ [[a, b, x]]))) :
    ∃ g cap cur, v = .slice (some ⟨g, 0, none⟩) (M.length + 1) cap ∧ B ≤ g ∧ Blk w g e cur ∧ M.length * 3 + 2 < cur.size ∧ w.cell? ⟨g, M.length * 3 + 2, none⟩ = some (.int .i64 x) ∧
      ∀ w' y, Blk w' g e (cur.setIfInBounds (M.length * 3 + 2) (.int .i64 y)) → OwnN w' B e 3 (.slice (some ⟨g, 0, none⟩) (M.length + 1) cap) (irows (M ++ [[a, b, y]])) := by
  have hl : (irows (M ++ [[a, b, x]])).length = M.length + 1 := by rw [irows_len, List.length_append]; rfl
  have hr : (irows (M ++ [[a, b, x]]))[M.length]? = some (ivals [a, b, x]) := irows_at (by rw [List.getElem?_append_right (Nat.le_refl _), Nat.sub_self]; rfl)
  obtain ⟨g, cap, cur, hv0, hB, hg, hs, hn⟩ := h.put (k := M.length) (i := 2) (by omega) (by decide)
  have hv := hv0.trans (show Value.slice (some ⟨g, 0, none⟩) _ cap = Value.slice (some ⟨g, 0, none⟩) (M.length + 1) cap by rw [hl])
  have hrow := ((hv ▸ h).rn.row hr rfl) 2 (.int .i64 x) rfl
  refine ⟨g, cap, cur, hv, hB, hg, hs, ?_, fun w' y hw => ?_⟩
  · rw [add_of_add, addr_add0] at hrow
    exact hrow
  · have e1 : (irows (M ++ [[a, b, x]]))[M.length] = ivals [a, b, x] := by
      rw [List.getElem?_eq_getElem (by omega)] at hr
      exact Option.some.inj hr
    have h2 := hn w' _ hw
    rw [e1, ← hv0, hv] at h2
    have e2 : (irows (M ++ [[a, b, x]])).set M.length ((ivals [a, b, x]).set 2 (.int .i64 y)) = irows (M ++ [[a, b, y]]) := by
      unfold irows
      rw [List.map_append, List.map_append, List.set_append_right _ _ (by rw [List.length_map]; omega), List.length_map, Nat.sub_self]
      rfl
    rw [e2] at h2
    exact h2
set_option maxHeartbeats 3200000 in
theorem rspans23_any (off n : Int) (ho : -9223372036854775808 ≤ off ∧ off < 9223372036854775808) (hn : -9223372036854775808 ≤ n ∧ n < 9223372036854775808) (w : World) :
    Calls Try.prog 8 #[.int .i64 off, .int .i64 n] w (RetN w 25 3 (irows (spansS off n))) := by
  obtain ⟨o, Ho⟩ : ∃ o, Hid (loS off = o) := ⟨_, Lib.hid rfl⟩
  obtain ⟨E, HE⟩ : ∃ E, Hid ((hiS off n).toNat = E) := ⟨_, Lib.hid rfl⟩
  rw [spansS_all, Ho.out, HE.out]
  have hE : (E = ((o : Int) + min n (34304 - (o : Int))).toNat) := by rw [← HE.out, ← Ho.out]; unfold hiS loS; congr 1; omega
  have Hst := Lib.hid (fun p (h : o ≤ p) => allS_step h)
  have HEl := Lib.hid (show E ≤ 34304 by omega)
  have HN1 := Lib.hid (fun p (_ : o ≤ p) (h1 : p ≤ o ∨ p ≤ E) (h : 34304 ≤ p ∨ n ≤ (p : Int) - (o : Int)) => show allS o p = allS o E by
    by_cases hoe : o < E
    · rw [show p = E from by omega]
    · rw [allS_nil (show p ≤ o by omega), allS_nil (show E ≤ o by omega)])
  have HN2 := Lib.hid (fun p (_ : o ≤ p) (h : (p : Int) < 34304 ∧ (p : Int) - (o : Int) < n) => show p + 1 ≤ E by omega)
  have HA0 := Lib.hid (show irows (allS o o) = [] by rw [allS_nil (Nat.le_refl o)]; rfl)
  have HLl := Lib.hid (fun p (_ : o ≤ p) (h : p ≤ 34304) => show (irows (allS o p)).length ≤ 134 by rw [irows_len]; unfold allS; rw [spnS_len]; exact numS_le h)
  have hcs : (off < 0 ∧ (0 : Int) = (o : Int)) ∨ (0 ≤ off ∧ off = (o : Int)) := by have := Ho.out; unfold loS at this; omega
  obtain ⟨L, hL⟩ : ∃ L : Nat → List (List Int), ∀ p, allS o p = L p := ⟨allS o, fun _ => rfl⟩
  simp only [hL] at Hst HN1 HA0 HLl ⊢
  have Hn := Lib.hid hn
  clear hL hE HE Ho hn
  rcases hcs with ⟨q1, q2⟩ | ⟨q1, q2⟩
  all_goals
    first | subst q2 | (have Q2 := Lib.hid q2; clear q2)
    go_enter Try.func8, Try.ntmps8
    go_wp2_with fail
    clear q1 ho
    go_loopw [5, 6] (fun u z wr => ∃ p : Nat, (o ≤ p ∧ (p ≤ o ∨ p ≤ E)) ∧ z = .int .i64 p ∧ Hid (Below w.heap.size w wr) ∧ Hid (OwnN wr w.heap.size 25 3 u (irows (L p)))) (fun _ z _ => 34304 - (intOf z).toNat)
    case atStart => exact ⟨o, ⟨Nat.le_refl _, Or.inl (Nat.le_refl _)⟩, by first | rfl | (rw [← Q2.out]), Lib.hid (Below.refl _ _), Lib.hid (by rw [HA0.out]; exact OwnN.nil_ _ _ _ _)⟩
    case round =>
      obtain ⟨p, ⟨hp0, hp1⟩, rfl, D, HO⟩ := hrel
      by_cases hlt : (p : Int) < 34304 ∧ (p : Int) - (o : Int) < n
      rotate_left
      · have HX := Lib.hid (HN1.out p hp0 hp1)
        by_cases h1 : (p : Int) < 34304
        · have h2 : ¬ (p : Int) - (o : Int) < n := fun h => hlt ⟨h1, h⟩
          have HX := Lib.hid (HX.out (Or.inr (by omega)))
          rw [HX.out] at HO
          have hw : IntKind.i64.wrap ((p : Int) - (o : Int)) = (p : Int) - (o : Int) := IntWalk.i64_in _ (by omega)
          first | (have h2b : ¬ (p : Int) < n := by have := Q2.out; omega) | skip
          clear HX hlt
          go_wp2_with fail
          go_ret
          exact ⟨_, rfl, HO.out, D.out⟩
        · have HX := Lib.hid (HX.out (Or.inl (by omega)))
          rw [HX.out] at HO
          clear HX hlt
          go_wp2_with fail
          go_ret
          exact ⟨_, rfl, HO.out, D.out⟩
      · obtain ⟨h1, h2⟩ := hlt
        obtain ⟨M, a, b, x, hx0, hx1, hs1, hs2⟩ := Hst.out p hp0
        have HL2 := Lib.hid (congrArg irows hs2)
        have HLp := Lib.hid (HLl.out p hp0 (by omega))
        have hM : M.length ≤ 134 := by
          have h3 := HLp.out
          rw [irows_len] at h3
          have h4 := congrArg List.length hs1
          rw [List.length_append, List.length_singleton] at h4
          by_cases hc : p = o ∨ p % 256 = 0
          · rw [if_pos hc, List.length_append, List.length_singleton] at h4
            omega
          · rw [if_neg hc] at h4
            omega
        have HN := Lib.hid (HN2.out p hp0 ⟨h1, h2⟩)
        have h2a : (p : Int) - (o : Int) < n := h2
        first | (have h2b : (p : Int) < n := by have := Q2.out; omega) | skip
        have hw : IntKind.i64.wrap ((p : Int) - (o : Int)) = (p : Int) - (o : Int) := IntWalk.i64_in _ (by omega)
        clear hs2 h2
        by_cases hpo : p = o
        · rw [if_pos (Or.inl hpo)] at hs1
          have HS := Lib.hid (show irows (L p) ++ [(#[.int .i64 ((p : Int) / 256), .int .i64 ((p : Int) % 256), .int .i64 0] : Array Value).toList] = irows (M ++ [[a, b, x]]) by
            rw [← hs1, ← irows_snoc]
            congr 2)
          have t1 : ((p : Int) == (o : Int)) = true := by simp; omega
          first | (have t1b : ((p : Int) == 0) = true := by have := Q2.out; simp; omega) | skip
          clear hs1 hpo
          have hb0 : Blk (wr.alloc (.cells #[.int .i64 ((p : Int) / 256), .int .i64 ((p : Int) % 256), .int .i64 0] 25)) wr.heap.size 25 #[.int .i64 ((p : Int) / 256), .int .i64 ((p : Int) % 256), .int .i64 0] := Blk.new wr _ _
          have hd0 : Below wr.heap.size wr (wr.alloc (.cells #[.int .i64 ((p : Int) / 256), .int .i64 ((p : Int) % 256), .int .i64 0] 25)) := (Below.refl _ _).alloc (Nat.le_refl _) _
          have HB7 := Lib.hid hb0
          have HO7 := Lib.hid (HO.out.ext hd0)
          have D7 := Lib.hid (bt D.out hd0)
          have z7 := Lib.hid D7.out.size
          clear hb0 hd0
          go_wp2_with (at_builtin; refine wpList_append_row1 rfl _ _ _ _ rfl Try.underlying23 3 _ _ Try.spanInfo rfl (by decide) w.heap.size _ _ rfl HO7.out _ #[.int .i64 ((p : Int) / 256), .int .i64 ((p : Int) % 256), .int .i64 0] rfl HB7.out rfl (by simp [Value.oneCell']) z7.out (by have := HLp.out; omega) (by have := HLp.out; omega) ?_)
          apply Stop.go; intro gn cap w8 HO8 HB8 HG8 HL8
          rw [HS.out] at HO8
          have D8 := Lib.hid (D7.out.trans HB8.out)
          generalize Value.slice (some ⟨gn, 0, none⟩) _ cap = v8 at *
          clear HO7 D7 z7 HB7 HB8 HG8 HL8 HO D HS
          obtain ⟨g, cp, cur, hv, hB, hg, hs, hc, hput⟩ := HO8.out.last
          subst hv
          have HCu := Lib.hid (show cur[M.length * 3 + 2]? = some (.int .i64 x) by rw [← hg.cell]; exact hc)
          have HG := Lib.hid hg
          have Hs := Lib.hid hs
          have HB := Lib.hid hB
          have HPut := Lib.hid hput
          clear hB hg hs hc hput HO8
          generalize M.length = m at *
          have p0 : (0 : Int) ≤ (m : Int) := by omega
          have p1 : (m : Int) < (m : Int) + 1 := by omega
          have hwm : IntKind.i64.wrap (m : Int) = (m : Int) := IntWalk.i64_in _ (by omega)
          have hwx : IntKind.i64.wrap (x + 1) = x + 1 := IntWalk.i64_in _ (by omega)
          go_wp2_with fail
          refine WT.start 10 (S := fun w' : World => Blk w' g 25 cur) [false, false, false, false, false, false, false, false, false, false, false] 11 rfl rfl (by kernel_rfl) (HG.out.ext (bdrew w8 1)) (fun hSn => ?_); obtain ⟨wS, hwS⟩ : ∃ x, (w8).drew = x := ⟨_, rfl⟩; have HE := Lib.hid (show Below (w8).heap.size (w8) wS from hwS ▸ bdrew w8 1); rw [hwS] at hSn ⊢; clear hwS
          refine WT.tk 0 ?_; simp only [setL]
          refine WT.tk 1 ?_; simp only [setL]
          refine WT.tk 2 ?_; simp only [setL]
          refine WT.tk 3 ?_; simp only [setL]
          refine WT.tk 4 ?_; simp only [setL]
          refine WT.tk 5 ?_; simp only [setL]
          refine WT.tv 6 rfl (fun w' hSw => exec_load_cell _ _ rfl ⟨g, m * 3 + 2, none⟩ rfl (.int .i64 x) ((hSw.cell _).trans HCu.out) _ Try.underlying3 rfl) ?_; simp only [setL]
          refine WT.tk 7 ?_; simp only [setL]
          refine WT.tk 8 ?_; simp only [setL]
          refine WT.tk 9 ?_; simp only [setL]
          refine WT.last _ rfl (by kernel_rfl) rfl (fun K hK => ?_)
          refine ow_store_cell _ _ _ rfl Try.int1Size g (m * 3 + 2) rfl (.int .i64 (x + 1)) rfl rfl rfl _ _ hSn Hs.out ?_
          apply Stop.go; intro we Hoe Hbe
          have HOe := Lib.hid (HPut.out we (x + 1) Hbe.out)
          rw [← HL2.out] at HOe
          have De := Lib.hid ((bt D8.out HE.out).trans (Hoe.out.below HB.out))
          refine hK _ _ ?_; clear hK; clear K; simp only [setL]; refine WT.done (by kernel_rfl) ?_
          clear HPut HG HCu Hs Hoe Hbe HE hSn HB D8 p0 p1 hwm hwx
          go_wp2_with fail
          go_roundw
          case rel => exact ⟨p + 1, ⟨by omega, Or.inr HN.out⟩, by go_num, De, HOe⟩
          case measure => simp [intOf]; omega
        · have t1 : ((p : Int) == (o : Int)) = false := by simp; omega
          first | (have t1b : ((p : Int) == 0) = false := by have := Q2.out; simp; omega) | skip
          by_cases hpm : p % 256 = 0
          · rw [if_pos (Or.inr hpm)] at hs1
            have HS := Lib.hid (show irows (L p) ++ [(#[.int .i64 ((p : Int) / 256), .int .i64 ((p : Int) % 256), .int .i64 0] : Array Value).toList] = irows (M ++ [[a, b, x]]) by
              rw [← hs1, ← irows_snoc]
              congr 2)
            have t2 : ((p : Int) % 256 == 0) = true := by simp; omega
            clear hs1 hpo hpm
            have hb0 : Blk (wr.alloc (.cells #[.int .i64 ((p : Int) / 256), .int .i64 ((p : Int) % 256), .int .i64 0] 25)) wr.heap.size 25 #[.int .i64 ((p : Int) / 256), .int .i64 ((p : Int) % 256), .int .i64 0] := Blk.new wr _ _
            have hd0 : Below wr.heap.size wr (wr.alloc (.cells #[.int .i64 ((p : Int) / 256), .int .i64 ((p : Int) % 256), .int .i64 0] 25)) := (Below.refl _ _).alloc (Nat.le_refl _) _
            have HB7 := Lib.hid hb0
            have HO7 := Lib.hid (HO.out.ext hd0)
            have D7 := Lib.hid (bt D.out hd0)
            have z7 := Lib.hid D7.out.size
            clear hb0 hd0
            go_wp2_with (at_builtin; refine wpList_append_row1 rfl _ _ _ _ rfl Try.underlying23 3 _ _ Try.spanInfo rfl (by decide) w.heap.size _ _ rfl HO7.out _ #[.int .i64 ((p : Int) / 256), .int .i64 ((p : Int) % 256), .int .i64 0] rfl HB7.out rfl (by simp [Value.oneCell']) z7.out (by have := HLp.out; omega) (by have := HLp.out; omega) ?_)
            apply Stop.go; intro gn cap w8 HO8 HB8 HG8 HL8
            rw [HS.out] at HO8
            have D8 := Lib.hid (D7.out.trans HB8.out)
            generalize Value.slice (some ⟨gn, 0, none⟩) _ cap = v8 at *
            clear HO7 D7 z7 HB7 HB8 HG8 HL8 HO D HS
            obtain ⟨g, cp, cur, hv, hB, hg, hs, hc, hput⟩ := HO8.out.last
            subst hv
            have HCu := Lib.hid (show cur[M.length * 3 + 2]? = some (.int .i64 x) by rw [← hg.cell]; exact hc)
            have HG := Lib.hid hg
            have Hs := Lib.hid hs
            have HB := Lib.hid hB
            have HPut := Lib.hid hput
            clear hB hg hs hc hput HO8
            generalize M.length = m at *
            have p0 : (0 : Int) ≤ (m : Int) := by omega
            have p1 : (m : Int) < (m : Int) + 1 := by omega
            have hwm : IntKind.i64.wrap (m : Int) = (m : Int) := IntWalk.i64_in _ (by omega)
            have hwx : IntKind.i64.wrap (x + 1) = x + 1 := IntWalk.i64_in _ (by omega)
            go_wp2_with fail
            refine WT.start 10 (S := fun w' : World => Blk w' g 25 cur) [false, false, false, false, false, false, false, false, false, false, false] 11 rfl rfl (by kernel_rfl) (HG.out.ext (bdrew w8 1)) (fun hSn => ?_); obtain ⟨wS, hwS⟩ : ∃ x, (w8).drew = x := ⟨_, rfl⟩; have HE := Lib.hid (show Below (w8).heap.size (w8) wS from hwS ▸ bdrew w8 1); rw [hwS] at hSn ⊢; clear hwS
            refine WT.tk 0 ?_; simp only [setL]
            refine WT.tk 1 ?_; simp only [setL]
            refine WT.tk 2 ?_; simp only [setL]
            refine WT.tk 3 ?_; simp only [setL]
            refine WT.tk 4 ?_; simp only [setL]
            refine WT.tk 5 ?_; simp only [setL]
            refine WT.tv 6 rfl (fun w' hSw => exec_load_cell _ _ rfl ⟨g, m * 3 + 2, none⟩ rfl (.int .i64 x) ((hSw.cell _).trans HCu.out) _ Try.underlying3 rfl) ?_; simp only [setL]
            refine WT.tk 7 ?_; simp only [setL]
            refine WT.tk 8 ?_; simp only [setL]
            refine WT.tk 9 ?_; simp only [setL]
            refine WT.last _ rfl (by kernel_rfl) rfl (fun K hK => ?_)
            refine ow_store_cell _ _ _ rfl Try.int1Size g (m * 3 + 2) rfl (.int .i64 (x + 1)) rfl rfl rfl _ _ hSn Hs.out ?_
            apply Stop.go; intro we Hoe Hbe
            have HOe := Lib.hid (HPut.out we (x + 1) Hbe.out)
            rw [← HL2.out] at HOe
            have De := Lib.hid ((bt D8.out HE.out).trans (Hoe.out.below HB.out))
            refine hK _ _ ?_; clear hK; clear K; simp only [setL]; refine WT.done (by kernel_rfl) ?_
            clear HPut HG HCu Hs Hoe Hbe HE hSn HB D8 p0 p1 hwm hwx
            go_wp2_with fail
            go_roundw
            case rel => exact ⟨p + 1, ⟨by omega, Or.inr HN.out⟩, by go_num, De, HOe⟩
            case measure => simp [intOf]; omega
          · rw [if_neg (show ¬ (p = o ∨ p % 256 = 0) from fun h => h.elim hpo hpm)] at hs1
            rw [hs1] at HO
            have t2 : ((p : Int) % 256 == 0) = false := by simp; omega
            clear hs1 hpo hpm
            obtain ⟨g, cp, cur, hv, hB, hg, hs, hc, hput⟩ := HO.out.last
            subst hv
            have HCu := Lib.hid (show cur[M.length * 3 + 2]? = some (.int .i64 x) by rw [← hg.cell]; exact hc)
            have HG := Lib.hid hg
            have Hs := Lib.hid hs
            have HB := Lib.hid hB
            have HPut := Lib.hid hput
            clear hB hg hs hc hput HO
            generalize M.length = m at *
            have p0 : (0 : Int) ≤ (m : Int) := by omega
            have p1 : (m : Int) < (m : Int) + 1 := by omega
            have hwm : IntKind.i64.wrap (m : Int) = (m : Int) := IntWalk.i64_in _ (by omega)
            have hwx : IntKind.i64.wrap (x + 1) = x + 1 := IntWalk.i64_in _ (by omega)
            go_wp2_with fail
            refine WT.start 10 (S := fun w' : World => Blk w' g 25 cur) [false, false, false, false, false, false, false, false, false, false, false] 11 rfl rfl (by kernel_rfl) (HG.out.ext (bdrew wr 1)) (fun hSn => ?_); obtain ⟨wS, hwS⟩ : ∃ x, (wr).drew = x := ⟨_, rfl⟩; have HE := Lib.hid (show Below (wr).heap.size (wr) wS from hwS ▸ bdrew wr 1); rw [hwS] at hSn ⊢; clear hwS
            refine WT.tk 0 ?_; simp only [setL]
            refine WT.tk 1 ?_; simp only [setL]
            refine WT.tk 2 ?_; simp only [setL]
            refine WT.tk 3 ?_; simp only [setL]
            refine WT.tk 4 ?_; simp only [setL]
            refine WT.tk 5 ?_; simp only [setL]
            refine WT.tv 6 rfl (fun w' hSw => exec_load_cell _ _ rfl ⟨g, m * 3 + 2, none⟩ rfl (.int .i64 x) ((hSw.cell _).trans HCu.out) _ Try.underlying3 rfl) ?_; simp only [setL]
            refine WT.tk 7 ?_; simp only [setL]
            refine WT.tk 8 ?_; simp only [setL]
            refine WT.tk 9 ?_; simp only [setL]
            refine WT.last _ rfl (by kernel_rfl) rfl (fun K hK => ?_)
            refine ow_store_cell _ _ _ rfl Try.int1Size g (m * 3 + 2) rfl (.int .i64 (x + 1)) rfl rfl rfl _ _ hSn Hs.out ?_
            apply Stop.go; intro we Hoe Hbe
            have HOe := Lib.hid (HPut.out we (x + 1) Hbe.out)
            rw [← HL2.out] at HOe
            have De := Lib.hid ((bt D.out HE.out).trans (Hoe.out.below HB.out))
            refine hK _ _ ?_; clear hK; clear K; simp only [setL]; refine WT.done (by kernel_rfl) ?_
            clear HPut HG HCu Hs Hoe Hbe HE hSn HB D p0 p1 hwm hwx
            go_wp2_with fail
            go_roundw
            case rel => exact ⟨p + 1, ⟨by omega, Or.inr HN.out⟩, by go_num, De, HOe⟩
            case measure => simp [intOf]; omega

end Go.Proofs.Ytfhghcodhacneaa
