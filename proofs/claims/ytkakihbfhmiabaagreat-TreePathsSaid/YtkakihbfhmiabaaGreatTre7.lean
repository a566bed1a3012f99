/-
  Contracts of slices.SortFunc of nodes (by the library's), and of package tree's Of.
-/
import Derived.Test.YtkakihbfhmiabaaGreatTre6
import Derived.Test.YtkakihbfhmiabaaGreatShelf
import Derived.Shelf.SlSortCmp.WholeK
namespace Go.Proofs.YtkakihbfhmiabaaGreat
open Go.RowKit Go.Shelf Go.Sort Go.Lib
set_option maxRecDepth 10000

/-- Rows that read as nodes are nodes' cells. -/
theorem rows_nc {w : World} : ∀ {rows : List (List Value)} {t : List Nd}, rows.length = t.length → (∀ k (h : k < rows.length) (h' : k < t.length), RdN.R w rows[k] t[k]) → ∃ xs : List Nc, rows = xs.map nrow ∧ xs.length = t.length ∧ ∀ k (h : k < xs.length) (h' : k < t.length), RNc w xs[k] t[k]
  | [], [], _, _ => ⟨[], rfl, rfl, fun k h => absurd h (by simp)⟩
  | [], _ :: _, h, _ => by simp at h
  | _ :: _, [], h, _ => by simp at h
  | r :: rows, n :: t, h, hr => by
    obtain ⟨x, hx, hxn⟩ := hr 0 (by simp) (by simp)
    obtain ⟨xs, h1, h2, h3⟩ := rows_nc (rows := rows) (t := t) (by simpa using h) fun k hk hk' => hr (k + 1) (by simpa using hk) (by simpa using hk')
    simp only [List.getElem_cons_zero] at hx hxn
    refine ⟨x :: xs, by rw [List.map_cons, ← h1, hx], by simp [h2], fun k hk hk' => ?_⟩
    match k, hk, hk' with
    | 0, _, _ => exact hxn
    | k + 1, hk, hk' => exact h3 k (by simpa using hk) (by simpa using hk')
/-- The node of a number. -/
def nodeI (t : List Nd) (i : Int) : Nd := (t.find? fun n => decide (n.ino = i)).getD default
theorem nodeI_of {t : List Nd} (h : (t.map (·.ino)).Nodup) {n : Nd} (hn : n ∈ t) : nodeI t n.ino = n := by
  unfold nodeI
  induction t with
  | nil => simp at hn
  | cons m t ih =>
    rw [List.map_cons, List.nodup_cons] at h
    rcases List.mem_cons.1 hn with rfl | hn
    · rw [List.find?_cons_of_pos (by simp)]; rfl
    · have hne : m.ino ≠ n.ino := fun e => h.1 (by rw [e]; exact List.mem_map.2 ⟨n, hn, rfl⟩)
      rw [List.find?_cons_of_neg (by simpa using hne)]
      exact ih h.2 hn
theorem cmp_swo : SWO (ltOf fun x y : Nc => compareInt x.ino y.ino) := by
  refine ⟨fun x => ?_, fun x y z h1 h2 => ?_, fun x y z h1 h2 => ?_⟩ <;> unfold ltOf compareInt at * <;> grind
theorem nanI25_any (x : Int) (w : World) : Calls Tryz.prog 69 #[.int .i64 x] w fun e w' => e = .returned (.bool false) ∧ w' = w := by
  have e1 : (x != x) = false := by simp
  go_enter Tryz.func69, Tryz.ntmps69
  go_wp2_with fail
  go_ret
  exact ⟨by first | rfl | rw [e1], rfl⟩
theorem cmp25_any (x y : Int) (w : World) : Calls Tryz.prog 42 #[.int .i64 x, .int .i64 y] w fun e w' => e = .returned (.int .i64 (compareInt x y)) ∧ w' = w := by
  unfold compareInt
  by_cases h1 : x < y
  · rw [if_pos h1]
    have d1 : decide (x < y) = true := by simpa using h1
    clear h1
    go_enter Tryz.func42, Tryz.ntmps42
    go_wp2_with (go_at_call 69; refine (nanI25_any _ _).mono ?_; rintro _ _ ⟨rfl, rfl⟩)
    go_ret
    exact ⟨rfl, rfl⟩
  · rw [if_neg h1]
    have d1 : decide (x < y) = false := by simpa using h1
    clear h1
    by_cases h2 : x > y
    · rw [if_pos h2]
      have d2 : decide (y < x) = true := by simpa using h2
      clear h2
      go_enter Tryz.func42, Tryz.ntmps42
      go_wp2_with (go_at_call 69; refine (nanI25_any _ _).mono ?_; rintro _ _ ⟨rfl, rfl⟩)
      go_ret
      exact ⟨rfl, rfl⟩
    · rw [if_neg h2]
      have d2 : decide (y < x) = false := by simpa using h2
      clear h2
      go_enter Tryz.func42, Tryz.ntmps42
      go_wp2_with (go_at_call 69; refine (nanI25_any _ _).mono ?_; rintro _ _ ⟨rfl, rfl⟩)
      go_ret
      exact ⟨rfl, rfl⟩
set_option maxHeartbeats 1600000 in
theorem tof1_any (x y : Nc) (W : World) : Calls Tryz.prog 41 #[.agg (ncells x), .agg (ncells y)] W fun e w' => e = .returned (.int .i64 (compareInt x.ino y.ino)) ∧ ∃ q os', w' = grow (W.drewN q) os' := by
  have hcon := Lib.hid (fun W' => cmp25_any x.ino y.ino W')
  generalize compareInt x.ino y.ino = r at hcon ⊢
  unfold ncells
  go_enter Tryz.func41, Tryz.ntmps41
  go_wp2_with (go_at_call 42; refine (hcon.out _).mono ?_; rintro e w' ⟨rfl, rfl⟩)
  go_ret
  exact ⟨rfl, 0, _, by rw [alloc_eq_grow, alloc_eq_grow, grow_grow]; rfl⟩
theorem isAgg25 (w : World) : (isAgg 51).run Tryz.prog w = .ok true w := by
  unfold isAgg
  rw [Sem.run_bind, run_underlying Tryz.underlying51 w]
  rfl
theorem tsort_any (B : Nat) (v : Value) (t : List Nd) (h0 : 0 < t.length) (hn : t.length ≤ 4096) (hd : (t.map (·.ino)).Nodup) (w : World) (ho : OwnL RdN w B 51 7 v t) :
    Calls Tryz.prog 40 #[v, .func (.func 41) #[] #[]] w fun e w' => e = .returned (.tuple #[]) ∧ OwnL RdN w' B 51 7 v (srtN t) ∧ Save (Has v) w w' := by
  obtain ⟨rows, r1, r2, r3, r4⟩ := ho
  obtain ⟨xs, rfl, hxl, hx⟩ := rows_nc r2 r3
  have hform : ∃ g c, v = .slice (some ⟨g, 0, none⟩) t.length c := by
    obtain ⟨_, _, ⟨_, h⟩ | ⟨g, cap, cur, hv, _⟩⟩ := r1
    · rw [List.length_map, hxl] at h; omega
    · rw [List.length_map, hxl] at hv; exact ⟨g, cap, hv⟩
  obtain ⟨g, c, rfl⟩ := hform
  have hlt : g < w.heap.size := (r1.lt g rfl).2
  have hH : HoldsK nrow 7 w g 0 xs.toArray := OwnN.holdsK nrow_len (by decide) r1
  have hsz : xs.toArray.size = t.length := by simp [hxl]
  have hcmp : CmpLays Tryz.prog 41 #[] nrow 7 (fun x y => compareInt x.ino y.ino) g 0 xs.toArray.size w := fun m os dk _ x y => tof1_any x y _
  have hS := AnyQ.slices_SortFunc laysSortN 7 isAgg25 (fun w => sizeOf_of Tryz.ndSize w) nrow nrow_len nrow_one (fun x y => compareInt x.ino y.ino) cmp_swo 41 #[] g 0 c xs.toArray w (enters_of Tryz.func41 (by kernel_rfl) rfl) hcmp hH hlt (by omega)
  rw [hsz] at hS
  have hS : Calls Tryz.prog 40 #[.slice (some ⟨g, 0, none⟩) t.length c, .func (.func 41) #[] #[]] w fun e w' =>
    e = .returned (.tuple #[]) ∧ ∃ d' n os, PermIn 0 t.length xs.toArray d' ∧ SortedIn (ltOf fun x y : Nc => compareInt x.ino y.ino) 0 t.length d' ∧ w' = grow (putRowK nrow 7 (Sort.ahead w n) g 0 d') os := hS
  refine hS.mono ?_
  rintro e w' ⟨rfl, d', n, os, hp, hso, rfl⟩
  have hpl := perm_list (L := xs) (d' := d') (by rw [hsz]; exact hp)
  have hdl : d'.size = xs.length := by rw [← Array.length_toList]; exact hpl.length_eq
  have hsave : Save (Has (.slice (some ⟨g, 0, none⟩) t.length c)) w (grow (putRowK nrow 7 (Sort.ahead w n) g 0 d') os) := Save.sorted nrow 7 w g d' n os _ rfl
  have hown := OwnN.sorted nrow_len (by decide) r1 (M := d'.toList) (by rw [Array.length_toList, hdl]) n os
  rw [Array.toArray_toList] at hown
  have hmem : ∀ x ∈ xs, ∃ m ∈ t, RNc w x m ∧ x.ino = m.ino := fun x hx' => by
    obtain ⟨k, hk, rfl⟩ := List.getElem_of_mem hx'
    exact ⟨t[k]'(by omega), List.getElem_mem _, hx k hk (by omega), (hx k hk (by omega)).ino⟩
  have hft : xs.map (fun x => nodeI t x.ino) = t := by
    apply List.ext_getElem
    · rw [List.length_map, hxl]
    · intro k h1 h2
      rw [List.getElem_map]
      have hk : k < xs.length := by omega
      rw [(hx k hk h2).ino, nodeI_of hd (List.getElem_mem h2)]
  have hso2 : (d'.toList.map fun x => nodeI t x.ino).Pairwise fun a b => a.ino ≤ b.ino := by
    rw [List.pairwise_map]
    have hs := sorted_list (n := t.length) (by omega) hso
    refine List.Pairwise.imp_of_mem (fun {a b} ha hb hab => ?_) hs
    obtain ⟨m, hm, _, e1⟩ := hmem a (hpl.mem_iff.1 ha)
    obtain ⟨m', hm', _, e2⟩ := hmem b (hpl.mem_iff.1 hb)
    rw [e1, e2, nodeI_of hd hm, nodeI_of hd hm']
    unfold ltOf compareInt at hab
    rw [← e1, ← e2]
    grind
  have hperm : (d'.toList.map fun x => nodeI t x.ino).Perm t := by
    have := hpl.map (fun x : Nc => nodeI t x.ino)
    rwa [hft] at this
  have e1 := srtN_of hd hperm hso2
  have hoff : ∀ x ∈ xs, ∀ q ∈ blocksOf (nrow x), (Value.slice (some ⟨g, 0, none⟩) t.length c).ownBlock ≠ some q := fun x hx' q hq => r4 _ (List.mem_map.2 ⟨x, hx', rfl⟩) q hq
  refine ⟨rfl, ⟨d'.toList.map nrow, hown, ?_, fun k hk hk' => ?_, fun r hr q hq => ?_⟩, hsave⟩
  · rw [← e1, List.length_map, List.length_map]
  · have hkd : k < d'.toList.length := by simpa using hk
    have hmx : d'.toList[k] ∈ xs := hpl.mem_iff.1 (List.getElem_mem hkd)
    obtain ⟨m, hm, hr, e2⟩ := hmem _ hmx
    refine ⟨d'.toList[k], by rw [List.getElem_map], ?_⟩
    have e3 : (srtN t)[k] = m := by
      have : (srtN t)[k]? = some m := by
        rw [← e1, List.getElem?_map, List.getElem?_eq_getElem hkd]
        show some (nodeI t (d'.toList[k]).ino) = some m
        rw [e2, nodeI_of hd hm]
      rw [List.getElem?_eq_getElem hk'] at this
      injection this
    rw [e3]
    exact hr.stay fun q hq => hsave.block q (hr.there q hq) fun hf => hoff _ hmx q hq hf
  · obtain ⟨x, hx', rfl⟩ := List.mem_map.1 hr
    exact hoff x (hpl.mem_iff.1 hx') q hq

end Go.Proofs.YtkakihbfhmiabaaGreat
