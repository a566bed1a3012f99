/-
  Contracts of lists of patches: To and Of of all, All, Bytes.
-/
import Derived.Test.YtckkdfpmibipfaaPat2
namespace Go.Proofs.Ytckkdfpmibipfaa
open Go.RowKit

/-- A result that is a list of patches. -/
def RetPL (w : World) (l : List Pt) (e : Ending) (w' : World) : Prop := ∃ A n c, e = .returned (.slice A n c) ∧ l.length = n ∧ n ≤ c ∧ c ≤ maxLen ∧ RPL w' A l ∧ Below w.heap.size w w'
theorem away_new {w : World} {p : Pt} {A : Option Addr} {n c : Nat} {v : Value} {B : Nat} (hp : PV w p A n c) (hf : ∀ ad, A = some ad → B ≤ ad.block) (hv : ∀ k, v.ownBlock = some k → k < B) : Away p.data A v := by
  by_cases h : p.data = []
  · exact Or.inl h
  · obtain ⟨ad, rfl⟩ := hp.read.addr (List.length_pos_iff.2 h)
    refine Or.inr fun e => ?_
    have h1 := hf ad rfl
    have h2 := hv ad.block (by rw [← e]; rfl)
    omega
theorem away_old {w : World} {p : Pt} {A : Option Addr} {n c : Nat} {v : Value} (hp : PV w p A n c) (hv : ∀ k, v.ownBlock = some k → w.heap.size ≤ k) : Away p.data A v := by
  by_cases h : p.data = []
  · exact Or.inl h
  · obtain ⟨ad, e, hc⟩ := hp.read 0 (List.length_pos_iff.2 h)
    have hlt := block_lt_of_cell hc
    rw [block_of_add] at hlt
    refine Or.inr fun e2 => ?_
    have h2 := hv ad.block (by rw [← e2, e]; rfl)
    omega


set_option maxHeartbeats 800000 in
theorem ofAll_any (A : Option Addr) (n c : Nat) (l : List Pt) (hn : l.length = n) (hm : n ≤ 4096) (w : World) (hr : RPL w A l) :
    Calls Try.prog 20 #[.slice A n c] w (RetPL w l) := by
  have Hn := Lib.hid hn
  have Hr := Lib.hid hr
  clear hn hr
  go_enter Try.func20, Try.ntmps20
  go_wp2_with fail
  go_loopw [3, 4] (fun o i wr => ∃ k : Nat, k ≤ n ∧ i = .int .i64 k ∧ OwnP wr w.heap.size 54 o (l.take k) ∧ Below w.heap.size w wr) (fun _ i _ => n - (intOf i).toNat)
  case atStart => exact ⟨0, Nat.zero_le _, rfl, OwnP.nil_ _ _ _, Below.refl _ _⟩
  case round =>
    obtain ⟨k, hk, rfl, how, hbw⟩ := hrel
    have How := Lib.hid how
    have Hbw := Lib.hid hbw
    clear how hbw
    by_cases hlt : k < n
    · have d0 : decide ((k : Int) < n) = true := by simpa using hlt
      have hkl : k < l.length := by rw [Hn.out]; exact hlt
      obtain ⟨ad, v0, v1, rfl, c0, c1, hp⟩ := Hr.out k hkl
      obtain ⟨A', n', c', rfl, rfl, hq⟩ := hp.pv
      have c0 := (Hbw.out.cell (block_lt_of_cell c0)).trans c0
      have c1 := (Hbw.out.cell (block_lt_of_cell c1)).trans c1
      have Hq := Lib.hid hq
      have Hp := Lib.hid (hq.below Hbw.out)
      have Ht := Lib.hid (show l.take (k + 1) = l.take k ++ [l[k]] from List.take_succ_eq_append_getElem hkl)
      have Hl := Lib.hid (show (l.take k).length = k by rw [List.length_take, Hn.out]; omega)
      generalize l[k] = p at *
      have C0 := Lib.hid c0
      have C1 := Lib.hid c1
      clear hp hq c0 c1
      go_wp2_with (refine wpList_load_pair rfl _ _ rfl (ad.add (k * 2)) rfl _ _ C0.out (by rw [add_of_add]; exact C1.out) _ Try.underlying57 Try.patchSize ?_)
      have Ha2 := Lib.hid (away_old Hq.out fun k hk => (How.out.lt k hk).1)
      refine (of_any p A' n' c' _ Hp.out).mono ?_; rintro e w2 ⟨rfl, hp2, hb2⟩
      have Hp2 := Lib.hid hp2
      have Hb2 := Lib.hid hb2
      have Ho2 := Lib.hid (How.out.ext hb2)
      clear hp2 hb2
      go_wp2_with (first | refine wpList_build_one rfl _ _ _ rfl Try.underlying40 _ _ Try.rpatchInfo rfl _ _ rfl ?_ | (at_builtin; refine wpList_append_pt rfl _ _ _ _ rfl Try.underlying40 _ _ Try.rpatchInfo rfl w.heap.size _ _ Ho2.out p A' n' c' Hp2.out Ha2.out rfl rfl (Nat.le_trans Hbw.out.size Hb2.out.size) (by rw [Hl.out]; omega) (by rw [Hl.out]; omega) ?_))
      apply Stop.go; intro v3 w3 Ho3 Hb3
      go_wp2_with fail
      go_roundw
      case rel => exact ⟨k + 1, by omega, by go_num, by rw [Ht.out]; exact Ho3.out, (bt Hbw.out Hb2.out).trans Hb3.out⟩
      case measure => simp [intOf]; omega
    · have d0 : decide ((k : Int) < n) = false := by simpa using hlt
      obtain rfl : k = n := by omega
      have e1 : l.take k = l := List.take_of_length_le (by rw [Hn.out]; omega)
      rw [e1] at How
      obtain ⟨A', c', hv, h1, h2, h3⟩ := How.out.read
      have Hv := Lib.hid hv
      clear e1 hv
      go_wp2_with fail
      go_ret
      rw [Hn.out] at Hv h1
      exact ⟨A', _, c', congrArg Ending.returned Hv.out, Hn.out, h1, h2, h3, Hbw.out⟩

end Go.Proofs.Ytckkdfpmibipfaa
