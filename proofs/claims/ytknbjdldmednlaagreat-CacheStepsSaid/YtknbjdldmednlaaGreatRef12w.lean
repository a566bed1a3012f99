/-
  The document's Without, of a list whose blocks are such.
-/
import Derived.Test.YtknbjdldmednlaaGreatGrO
import Derived.Test.YtknbjdldmednlaaGreatGrR
import Derived.Test.YtknbjdldmednlaaGreatR09f
namespace Go.Proofs.YtknbjdldmednlaaGreat
open Go.RowKit

/-- A result that is a slice of changes of the call's own, whose rows lead to such blocks. -/
def RetCP (p : Nat → Prop) (w : World) (l : List Cg) (e : Ending) (w' : World) : Prop := ∃ A n c, e = .returned (.slice A n c) ∧ l.length = n ∧ n ≤ c ∧ c ≤ maxLen ∧ RdL (RdP RdC p) w' A 5 l ∧ (∀ ad, A = some ad → w.heap.size ≤ ad.block) ∧ Below w.heap.size w w'
theorem OwnL.retCP {p : Nat → Prop} {w w' : World} {e : TypeId} {v : Value} {l : List Cg} (h : OwnL (RdP RdC p) w' w.heap.size e 5 v l) (hb : Below w.heap.size w w') : RetCP p w l (.returned v) w' := by
  have hlt := h.lt
  obtain ⟨rows, h1, h2, h3, _⟩ := id h
  obtain ⟨A, c, rfl, q1, q2, q3⟩ := h.read
  refine ⟨A, _, c, rfl, rfl, q1, q2, q3, fun ad e => ?_, hb⟩
  subst e
  exact (hlt ad.block rfl).1
theorem RdL.cgP {w : World} {p : Nat → Prop} {A : Option Addr} {l : List Cg} (h : RdL (RdP RdC p) w A 5 l) {k : Nat} (hk : k < l.length) :
    ∃ ad Ad nd cd An nn cn, A = some ad ∧ CV w l[k] Ad nd cd An nn cn ∧ (∀ q ∈ blocksOf [Value.int .i64 l[k].id, .int .i64 l[k].block, .int .i64 l[k].p.at_, .slice Ad nd cd, .slice An nn cn], p q) ∧ w.cell? (ad.add (k * 5)) = some (.int .i64 l[k].id) ∧ w.cell? ((ad.add (k * 5)).add 1) = some (.int .i64 l[k].block) ∧ w.cell? ((ad.add (k * 5)).add 2) = some (.int .i64 l[k].p.at_) ∧ w.cell? ((ad.add (k * 5)).add 3) = some (.slice Ad nd cd) ∧ w.cell? ((ad.add (k * 5)).add 4) = some (.slice An nn cn) := by
  obtain ⟨ad, r, e, _, ⟨⟨v0, v1, v2, v3, v4, rfl, hr⟩, hlow⟩, hc⟩ := h.at_ hk (by decide)
  obtain ⟨Ad, nd, cd, An, nn, cn, rfl, rfl, rfl, rfl, rfl, hcv⟩ := hr.cv
  have h0 := hc 0 _ rfl
  rw [add_of_add, Nat.add_zero] at h0
  exact ⟨ad, Ad, nd, cd, An, nn, cn, e, hcv, hlow, h0, hc 1 _ rfl, hc 2 _ rfl, hc 3 _ rfl, hc 4 _ rfl⟩
set_option maxRecDepth 100000 in
set_option maxHeartbeats 4000000 in
theorem rwithoutP_any (p : Nat → Prop) (A : Option Addr) (n cap : Nat) (l : List Cg) (hn : l.length = n) (hm : n ≤ 4096) (Ai : Option Addr) (ni ci : Nat) (ids : List Int) (hni : ids.length = ni) (hmi : ni ≤ 4096) (w : World) (hr : RdL (RdP RdC p) w A 5 l) (hri : RC w Ai (ivals ids)) :
    Calls Tryz.prog 63 #[.slice A n cap, .slice Ai ni ci] w (RetCP p w (withoutC l ids)) := by
  have Hn := Lib.hid hn
  have Hr := Lib.hid hr
  have Hni := Lib.hid hni
  have Hri := Lib.hid hri
  clear hni hri
  clear hn hr
  go_enter Tryz.func63, Tryz.ntmps63
  go_wp2_with fail
  go_loopw [5, 6] (fun o i wr => ∃ k : Nat, k ≤ n ∧ i = .int .i64 k ∧ OwnL (RdP RdC p) wr w.heap.size 81 5 o (withoutC (l.take k) ids) ∧ Below w.heap.size w wr) (fun _ i _ => n - (intOf i).toNat)
  case atStart => exact ⟨0, Nat.zero_le _, rfl, OwnL.nil_ _ _ _ _ _, Below.refl _ _⟩
  case round =>
    obtain ⟨k, hk, rfl, hu, hbw⟩ := hrel
    have Hu := Lib.hid hu
    have Hbw := Lib.hid hbw
    clear hu hbw
    by_cases hlt : k < n
    · have d0 : decide ((k : Int) < n) = true := by simpa using hlt
      have hkl : k < l.length := by rw [Hn.out]; exact hlt
      have z1 : (k : Int) < n := by omega
      obtain ⟨ad, Ad, nd, cd, An, nn, cn, rfl, hcv, hlow, h0, h1, h2, h3, h4⟩ := Hr.out.cgP hkl
      have HLow := Lib.hid hlow
      have Hon := Lib.hid (withoutC_on (ids := ids) hkl)
      have Hoff := Lib.hid (withoutC_off (ids := ids) hkl)
      have Hlk := Lib.hid (withoutC_lenk l ids k)
      have tr := fun {ad : Addr} {v : Value} (h : w.cell? ad = some v) => (Hbw.out.cell (block_lt_of_cell h)).trans h
      have C0 := Lib.hid (tr h0)
      have C1 := Lib.hid (tr h1)
      have C2 := Lib.hid (tr h2)
      have C3 := Lib.hid (tr h3)
      have C4 := Lib.hid (tr h4)
      have c0 := C0.out
      have c1 := cell_fld C0.out C1.out
      have Hcv := Lib.hid hcv
      clear h0 h1 h2 h3 h4 hcv tr hlow
      generalize l[k] = c at *
      generalize withoutC (l.take k) ids = L at *
      clear hkl
      obtain ⟨b, hb⟩ : ∃ b, ids.contains c.id = b := ⟨_, rfl⟩
      rw [hb] at Hon Hoff
      have HBB := Lib.hid hb
      clear hb
      go_wp2_with fail
      refine (rin9_is Ai ni ci ids Hni.out (by unfold maxLen; omega) c.id b HBB.out _ (Hri.out.below Hbw.out)).mono ?_; rintro e wx ⟨rfl, rfl⟩
      clear c0 c1
      cases b
      · have HX := Lib.hid (Hoff.out rfl)
        go_wp2_with (first | refine wpList_load_five rfl _ _ rfl (ad.add (k * 5)) rfl _ _ _ _ _ C0.out C1.out C2.out C3.out C4.out _ Tryz.underlying81 Tryz.rchgSize ?_ | refine wpList_build_row rfl _ _ _ rfl Tryz.underlying30 5 72 _ Tryz.rchgInfo (by decide) (by decide) #[.int .i64 c.id, .int .i64 c.block, .int .i64 c.p.at_, .slice Ad nd cd, .slice An nn cn] rfl rfl ?_)
        apply Stop.go; intro wB HgB HbB
        have HuZ := Lib.hid (Hu.out.ext HgB.out.1)
        have HcZ := Lib.hid (Hcv.out.below (bt Hbw.out HgB.out.1))
        have HzB := Lib.hid (Nat.le_trans Hbw.out.size HgB.out.1.size)
        have hl1 : L.length + 1 ≤ 140737488355328 := by have := Hlk.out; omega
        have hl2 : (L.length + 1) * 72 ≤ 140737488355328 := by have := Hlk.out; omega
        go_wp2_with (at_builtin; refine wpList_append_L (RdP RdC p) rfl _ _ _ _ rfl Tryz.underlying30 5 72 _ Tryz.rchgInfo rfl (by decide) w.heap.size _ L rfl HuZ.out _ _ rfl HbB.out rfl (by simp [Value.oneCell']) c ⟨HcZ.out.rd, HLow.out⟩ (fun q hq e => by have h1 := RdC.there Hcv.out.rd q hq; have h2 := (Hu.out.lt q e).1; omega) HzB.out hl1 hl2 ?_)
        apply Stop.go
        intro gL capL wL HL HbL HgL HwL
        go_wp2_with fail
        go_roundw
        case rel => exact ⟨k + 1, by omega, by go_num, by rw [HX.out]; exact HL.out, (bt Hbw.out HgB.out.1).trans HbL.out⟩
        case measure => simp [intOf]; omega
      · have HX := Lib.hid (Hon.out rfl)
        go_wp2_with fail
        go_roundw
        case rel => exact ⟨k + 1, by omega, by go_num, by rw [HX.out]; exact Hu.out, Hbw.out⟩
        case measure => simp [intOf]; omega
    · have d0 : decide ((k : Int) < n) = false := by simpa using hlt
      rw [List.take_of_length_le (by rw [Hn.out]; omega)] at Hu
      obtain ⟨A', c', rfl, -⟩ := Hu.out.read
      go_wp2_with fail
      go_ret
      exact Hu.out.retCP Hbw.out


end Go.Proofs.YtknbjdldmednlaaGreat
