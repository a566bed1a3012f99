/-
  Contracts of the document's answers 03: the functions of lists of texts.
-/
import Derived.Test.YtbajicgpjggkfaaGreatNamL
import Derived.Test.YtbajicgpjggkfaaGreatName3A
import Derived.Test.YtbajicgpjggkfaaGreatStr
namespace Go.Proofs.YtbajicgpjggkfaaGreat
open Go.RowKit



theorem sortS_size {l : List ByteArray} {B : Nat} (h : ∀ x ∈ l, x.size ≤ B) : ∀ x ∈ sortS l, x.size ≤ B := fun x hx => h x ((sortS_mem l x).1 hx)
set_option maxHeartbeats 2000000 in
theorem rsort_any (A : Option Addr) (n cap : Nat) (l : List ByteArray) (hn : l.length = n) (hm : n ≤ 1000) (hs : ∀ x ∈ l, x.size ≤ maxLen) (w : World) (hr : RC w A (svals l)) :
    Calls Tryz.prog 42 #[.slice A n cap] w fun e w' => ∃ u, e = .returned u ∧ OwnC w' w.heap.size 9 u (svals (sortS l)) ∧ Below w.heap.size w w' := by
  have Hn := Lib.hid hn
  have Hs := Lib.hid hs
  have Hr := Lib.hid hr
  have HSs := Lib.hid (sortS_size hs)
  have hL : (sortS l).length ≤ n := by rw [← hn]; exact sortS_len l
  clear hn hs hr
  go_enter Tryz.func42, Tryz.ntmps42
  go_wp2_with fail
  go_loopg [3] (sortS l).length (fun g o wr => ∃ k : Nat, k ≤ (sortS l).length ∧ (sortS l).length - k ≤ g ∧ OwnC wr w.heap.size 9 o (svals ((sortS l).take k)) ∧ Below w.heap.size w wr)
  case atStart => exact ⟨0, Nat.zero_le _, Nat.le_refl _, OwnC.nil_ _ _ _, Below.refl _ _⟩
  case round =>
    obtain ⟨k, hk, hg, ho, hb⟩ := hrel
    obtain ⟨w1, rfl⟩ : ∃ x, x = wr := ⟨_, rfl⟩
    have Ho := Lib.hid ho
    have Hb := Lib.hid hb
    have Hr1 := Lib.hid (Hr.out.below hb)
    have hlk : ((sortS l).take k).length = k := by rw [List.length_take]; omega
    obtain ⟨Ao, co, rfl, hco, hcm, hro⟩ := ho.strs
    have Hro := Lib.hid hro
    rw [hlk] at Ho hco
    rw [hlk]
    clear ho hb hro
    go_wp2_with fail
    go_loopw [4, 5, 6] (fun f m i wx => ∃ (j : Nat) (b : Bool) (s : ByteArray) (q : Nat), j ≤ n ∧ i = .int .i64 j ∧ f = .bool b ∧ m = .string s ∧ BestS (sortS l) l k j b s ∧ wx = w1.drewN q) (fun _ _ i _ => n - (intOf i).toNat)
    case atStart => exact ⟨0, false, _, 0, Nat.zero_le _, rfl, rfl, rfl, BestS.start _ _ _ _, rfl⟩
    case round =>
      obtain ⟨j, b, s, q, hj, rfl, rfl, rfl, hbest, rfl⟩ := hrel
      have HB := Lib.hid hbest
      clear hbest
      by_cases hlt : j < n
      · have hjl : j < l.length := by rw [Hn.out]; exact hlt
        have d0 : decide ((j : Int) < n) = true := by simpa using hlt
        obtain ⟨ad, rfl, hc⟩ := Hr1.out.str j hjl
        have Hx := Lib.hid (Hs.out l[j] (List.getElem_mem hjl))
        have hc : (w1.drewN q).cell? (ad.add j) = some (.string l[j]) := hc
        generalize hw2 : w1.drewN q = w2 at *
        have Hw2 := Lib.hid hw2
        clear hw2
        obtain ⟨x, hx⟩ : ∃ x, l[j] = x := ⟨_, rfl⟩
        have Hxe := Lib.hid hx
        rw [hx] at Hx hc
        clear hx
        by_cases hk0 : k = 0
        · have Ha := Lib.hid (show aboveB (sortS l) k x = true by rw [hk0]; rfl)
          have dk : decide (0 < k) = false := decide_eq_false (by omega)
          clear hk0
          cases b
          · go_wp2_with fail
            go_quiet (fail)
            have hc3 : (w2.drewN nq).cell? (ad.add j) = some (.string x) := hc
            obtain ⟨q3, Hw3⟩ : ∃ q3, Hid (w1.drewN q3 = w2.drewN nq) := ⟨q + nq, Lib.hid (by rw [← Hw2.out, World.drewN_drewN])⟩
            clear hc
            generalize w2.drewN nq = w3 at *
            have HN := Lib.hid (BestS.takes HB.out hjl (Hxe.out.symm ▸ Ha.out) (Or.inl rfl))
            go_wp2_with fail
            go_quiet (fail)
            go_wp2_with fail
            go_roundw
            case rel => exact ⟨j + 1, true, x, q3 + nq, by omega, by go_num, rfl, rfl, Hxe.out ▸ HN.out, by rw [← Hw3.out, World.drewN_drewN]⟩
            case measure => simp [intOf]; omega
          · go_wp2_with fail
            go_quiet (fail)
            have hc3 : (w2.drewN nq).cell? (ad.add j) = some (.string x) := hc
            obtain ⟨q3, Hw3⟩ : ∃ q3, Hid (w1.drewN q3 = w2.drewN nq) := ⟨q + nq, Lib.hid (by rw [← Hw2.out, World.drewN_drewN])⟩
            clear hc
            generalize w2.drewN nq = w3 at *
            have Hss := Lib.hid (Hs.out s HB.out.in_)
            obtain ⟨r2, hr2⟩ : ∃ r, ltS x s = r := ⟨_, rfl⟩
            have Hr2 := Lib.hid hr2
            clear hr2
            go_wp2_with fail
            refine (rless_any x s Hx.out Hss.out _).mono ?_; rintro e wx ⟨rfl, q2, rfl⟩
            rw [Hr2.out]
            cases r2
            · have HN := Lib.hid (BestS.stays HB.out hjl (Hxe.out.symm ▸ Hr2.out))
              go_wp2_with fail
              go_roundw
              case rel => exact ⟨j + 1, true, s, q3 + q2, by omega, by go_num, rfl, rfl, HN.out, by rw [← Hw3.out, World.drewN_drewN]⟩
              case measure => simp [intOf]; omega
            · have HN := Lib.hid (BestS.takes HB.out hjl (Hxe.out.symm ▸ Ha.out) (Or.inr (Hxe.out.symm ▸ Hr2.out)))
              go_wp2_with fail
              go_quiet (fail)
              go_wp2_with fail
              go_roundw
              case rel => exact ⟨j + 1, true, x, q3 + (q2 + nq), by omega, by go_num, rfl, rfl, Hxe.out ▸ HN.out, by rw [← Hw3.out]; simp only [World.drewN_drewN]⟩
              case measure => simp [intOf]; omega
        · obtain ⟨p, rfl⟩ : ∃ p, k = p + 1 := ⟨k - 1, by omega⟩
          obtain ⟨ao, rfl, hy⟩ := Hro.out.str p (by omega)
          have Hy := Lib.hid (HSs.out (((sortS l).take (p + 1))[p]'(by omega)) (List.mem_of_mem_take (List.getElem_mem _)))
          have Hye := Lib.hid (show (sortS l).getD p noText = ((sortS l).take (p + 1))[p]'(by omega) by simp [List.getD, show p < (sortS l).length by omega])
          have hy : (w1.drewN q).cell? (ao.add p) = some (.string (((sortS l).take (p + 1))[p]'(by omega))) := hy
          rw [Hw2.out] at hy
          generalize ((sortS l).take (p + 1))[p]'(by omega) = y at *
          have hwp : IntKind.i64.wrap (p : Int) = p := IntWalk.i64_in _ (by omega)
          have dk : decide ((0 : Int) < (p : Int) + 1) = true := decide_eq_true (by omega)
          obtain ⟨r1, hr1⟩ : ∃ r, ltS y x = r := ⟨_, rfl⟩
          have Hr1' := Lib.hid hr1
          have Ha := Lib.hid (show aboveB (sortS l) (p + 1) x = r1 by
            unfold aboveB
            rw [show p + 1 - 1 = p from rfl, Hye.out, hr1]
            simp)
          have HL : Hid (∀ W, Calls Tryz.prog 82 #[.string y, .string x] W (RetQ (.bool r1) W)) := Lib.hid fun W => by
            have h := rless_any y x Hy.out Hx.out W
            rwa [hr1] at h
          clear hr1
          cases r1
          · have HN := Lib.hid (BestS.skip HB.out hjl (Hxe.out.symm ▸ Ha.out))
            go_wp2_with fail
            go_quiet ((go_at_call 82; exact Calls.quiet_of (HL.out _)))
            go_wp2_with fail
            go_roundw
            case rel => exact ⟨j + 1, b, s, q + nq, by omega, by go_num, rfl, rfl, HN.out, by rw [← Hw2.out, World.drewN_drewN]⟩
            case measure => simp [intOf]; omega
          · have Hyy := Lib.hid hy
            cases b
            · go_wp2_with fail
              go_quiet ((go_at_call 82; exact Calls.quiet_of (HL.out _)))
              have hc3 : (w2.drewN nq).cell? (ad.add j) = some (.string x) := hc
              obtain ⟨q3, Hw3⟩ : ∃ q3, Hid (w1.drewN q3 = w2.drewN nq) := ⟨q + nq, Lib.hid (by rw [← Hw2.out, World.drewN_drewN])⟩
              clear hc hy
              generalize w2.drewN nq = w3 at *
              have HN := Lib.hid (BestS.takes HB.out hjl (Hxe.out.symm ▸ Ha.out) (Or.inl rfl))
              go_wp2_with fail
              go_quiet (fail)
              go_wp2_with fail
              go_roundw
              case rel => exact ⟨j + 1, true, x, q3 + nq, by omega, by go_num, rfl, rfl, Hxe.out ▸ HN.out, by rw [← Hw3.out, World.drewN_drewN]⟩
              case measure => simp [intOf]; omega
            · go_wp2_with fail
              go_quiet ((go_at_call 82; exact Calls.quiet_of (HL.out _)))
              have hc3 : (w2.drewN nq).cell? (ad.add j) = some (.string x) := hc
              obtain ⟨q3, Hw3⟩ : ∃ q3, Hid (w1.drewN q3 = w2.drewN nq) := ⟨q + nq, Lib.hid (by rw [← Hw2.out, World.drewN_drewN])⟩
              clear hc hy
              generalize w2.drewN nq = w3 at *
              have Hss := Lib.hid (Hs.out s HB.out.in_)
              obtain ⟨r2, hr2⟩ : ∃ r, ltS x s = r := ⟨_, rfl⟩
              have Hr2 := Lib.hid hr2
              clear hr2
              go_wp2_with fail
              refine (rless_any x s Hx.out Hss.out _).mono ?_; rintro e wx ⟨rfl, q2, rfl⟩
              rw [Hr2.out]
              cases r2
              · have HN := Lib.hid (BestS.stays HB.out hjl (Hxe.out.symm ▸ Hr2.out))
                go_wp2_with fail
                go_roundw
                case rel => exact ⟨j + 1, true, s, q3 + q2, by omega, by go_num, rfl, rfl, HN.out, by rw [← Hw3.out, World.drewN_drewN]⟩
                case measure => simp [intOf]; omega
              · have HN := Lib.hid (BestS.takes HB.out hjl (Hxe.out.symm ▸ Ha.out) (Or.inr (Hxe.out.symm ▸ Hr2.out)))
                go_wp2_with fail
                go_quiet (fail)
                go_wp2_with fail
                go_roundw
                case rel => exact ⟨j + 1, true, x, q3 + (q2 + nq), by omega, by go_num, rfl, rfl, Hxe.out ▸ HN.out, by rw [← Hw3.out]; simp only [World.drewN_drewN]⟩
                case measure => simp [intOf]; omega
      · obtain rfl : j = n := by omega
        have d0 : decide ((j : Int) < j) = false := by simp
        have hbj := HB.out
        rw [← Hn.out] at hbj
        have HB := Lib.hid hbj
        clear hbj
        have D := Lib.hid (bdrew w1 q)
        have Ho2 := Lib.hid (Ho.out.ext D.out)
        have Hb2 := Lib.hid (bt Hb.out D.out)
        generalize w1.drewN q = w2 at *
        cases b
        · have Hl := Lib.hid (HB.out.none_all)
          rw [Hl.out] at Ho2
          go_wp2_with fail
          go_ret
          exact ⟨_, rfl, Ho2.out, Hb2.out⟩
        · obtain ⟨hk2, hl2⟩ := HB.out.some_next hk
          have Hl := Lib.hid hl2
          have hl1 : (svals ((sortS l).take k)).length + 1 ≤ maxLen := by rw [svals_len, hlk]; unfold maxLen; omega
          have hl3 : ((svals ((sortS l).take k)).length + 1) * 16 ≤ 140737488355328 := by rw [svals_len, hlk]; omega
          clear hl2
          go_wp2_with (at_builtin; refine wpList_append_one rfl _ _ _ _ rfl Tryz.underlying55 (.string ⟨#[]⟩) 16 Tryz.stringInfo rfl w.heap.size _ _ rfl Ho2.out (.string s) rfl rfl Hb2.out.size hl1 hl3 ?_)
          apply Stop.go; intro v3 w3 Ho3 Ha3
          go_wp2_with fail
          go_roundg ((sortS l).length - (k + 1))
          case measure => omega
          case rel => exact ⟨k + 1, by omega, Nat.le_refl _, by rw [Hl.out, ← svals_snoc]; exact Ho3.out, Hb2.out.trans Ha3.out.below⟩

end Go.Proofs.YtbajicgpjggkfaaGreat
