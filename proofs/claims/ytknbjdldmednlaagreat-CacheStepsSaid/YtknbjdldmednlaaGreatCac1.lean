/-
  A cache on its device, as the document has it: what each call tells, and how it stands behind it.
-/
import Derived.Test.YtknbjdldmednlaaGreatCa16
namespace Go.Proofs.YtknbjdldmednlaaGreat
open Go.RowKit

/-- At c there is a cache, on a device at b, that stands as the document's does; so much was asked of it. -/
def Cch (w : World) (ro : Nat → Option Rl) (c b g : Nat) (x : DC) (T : Nat) : Prop :=
  ∃ A S W, A.ca = c ∧ A.dv = b ∧ A.dt = g ∧ HP w ro A S ∧ Sim S x W ∧ A.nb ≤ T ∧ A.nl ≤ T ∧ S.dev.rd ≤ T ∧ x.last ≤ T
section
variable {w w' : World} {ro : Nat → Option Rl} {c b g : Nat} {x : DC} {T : Nat}
theorem Cch.ext (h : Cch w ro c b g x T) (hb : Below w.heap.size w w') : Cch w' ro c b g x T := by
  obtain ⟨A, S, W, h1, h2, h3, h4, h5⟩ := h
  exact ⟨A, S, W, h1, h2, h3, h4.ext hb, h5⟩
theorem Cch.only_none (h : Cch w ro c b g x T) {q : Nat} (ho : Only w w' q) (hg : ro q = none) : Cch w' ro c b g x T := by
  obtain ⟨A, S, W, h1, h2, h3, h4, h5⟩ := h
  exact ⟨A, S, W, h1, h2, h3, h4.only_none ho hg, h5⟩
theorem Cch.none_ge (h : Cch w ro c b g x T) {q : Nat} (hq : w.heap.size ≤ q) : ro q = none := by
  obtain ⟨A, S, W, h1, h2, h3, h4, h5⟩ := h
  exact h4.none_ge hq
theorem Cch.mono (h : Cch w ro c b g x T) {T' : Nat} (ht : T ≤ T') : Cch w ro c b g x T' := by
  obtain ⟨A, S, W, h1, h2, h3, h4, h5, h6, h7, h8, h9⟩ := h
  exact ⟨A, S, W, h1, h2, h3, h4, h5, by omega, by omega, by omega, by omega⟩
theorem Cch.ok (h : Cch w ro c b g x T) : x.Ok := by
  obtain ⟨A, S, W, _, _, _, _, h5, _⟩ := h
  exact h5.ok
theorem Cch.last (h : Cch w ro c b g x T) : x.last ≤ T := by
  obtain ⟨A, S, W, _, _, _, _, _, _, _, _, h9⟩ := h
  exact h9
theorem Cch.dv (h : Cch w ro c b g x T) : ∃ d, DV w b g d ∧ d.bl = x.base ∧ d.fuse = x.fuse ∧ d.off = x.off ∧ d.wr = x.wrote ∧ d.rd ≤ T ∧ ro b = some .dv ∧ ro g = some .dv := by
  obtain ⟨A, S, W, h1, h2, h3, h4, h5, h6, h7, h8, h9⟩ := h
  subst h2; subst h3
  exact ⟨S.dev, h4.dvw, h5.bl, h5.fuse, h5.off, h5.wr, h8, (h4.asn .dv).1, (h4.asn .dv).2.1⟩
/-- The device was turned. -/
theorem Cch.setD (h : Cch w ro c b g x T) {d : Dev} {y : DC} (ht : Turn w w' b g) (hd : DV w' b g d) (h1 : d.bl = x.base) (h2 : d.fuse = y.fuse) (h3 : d.off = y.off) (h4 : d.wr = x.wrote) (h5 : d.rd ≤ T) (hy : y = { x with fuse := y.fuse, off := y.off }) (hf : -1 ≤ y.fuse) : Cch w' ro c b g y T ∧ Tr ro ro w w' := by
  obtain ⟨A, S, W, e1, e2, e3, hp, hs, e6, e7, e8, e9⟩ := h
  subst e2; subst e3
  rw [hy]
  refine ⟨⟨A, { S with dev := d }, W, e1, rfl, rfl, hp.setD d ht hd, ?_, e6, e7, h5, e9⟩, ht.tr2 hp⟩
  exact ⟨⟨hs.ok.may, hs.ok.ids, hs.ok.blk, hs.ok.knw, hs.ok.bks, hs.ok.kl, hf, hs.ok.wrote, hs.ok.nlen⟩, hs.last, hs.kn, hs.lf, hs.live, hs.en0, hs.en1, hs.en2, hs.en3, h1, h2, h3, h4, hs.base, hs.view, hs.dirty, hs.dep, hs.lat, hs.waits, hs.beh, hs.free, hs.behL⟩
theorem c_fuse (h : Cch w ro c b g x T) (n : Int) (hn : n < 9223372036854775808) : Calls Tryz.prog 33 #[.pointer (some ⟨b, 0, none⟩), .int .i64 n] w fun e w' => e = .returned (.tuple #[]) ∧ Cch w' ro c b g (x.setFuse n) T ∧ Tr ro ro w w' := by
  obtain ⟨d, hd, d1, d2, d3, d4, d5, _⟩ := h.dv
  refine (fuse_any b g n d w hd hn).mono ?_
  rintro e w' ⟨rfl, ho, hd'⟩
  refine ⟨rfl, h.setD (Turn.of_only ho g) hd' d1 ?_ d3 d4 d5 rfl ?_⟩
  · rfl
  · show -1 ≤ (if n < 0 then -1 else n)
    split <;> omega
theorem c_up (h : Cch w ro c b g x T) : Calls Tryz.prog 34 #[.pointer (some ⟨b, 0, none⟩)] w fun e w' => e = .returned (.tuple #[]) ∧ Cch w' ro c b g x.up T ∧ Tr ro ro w w' := by
  obtain ⟨d, hd, d1, d2, d3, d4, d5, _⟩ := h.dv
  refine (up_any b g d w hd).mono ?_
  rintro e w' ⟨rfl, ho, hd'⟩
  exact ⟨rfl, h.setD (Turn.of_only ho g) hd' d1 rfl rfl d4 d5 rfl (by show (-1 : Int) ≤ -1; omega)⟩
theorem c_writes (h : Cch w ro c b g x T) : Calls Tryz.prog 12 #[.pointer (some ⟨b, 0, none⟩)] w fun e w' => e = .returned (.int .i64 (x.wrote : Int)) ∧ w' = w := by
  obtain ⟨d, hd, d1, d2, d3, d4, d5, _⟩ := h.dv
  have h1 := writes_any (h := hd.ds)
  rw [d4] at h1
  exact h1
theorem c_read (h : Cch w ro c b g x T) (hT : T ≤ 1000) (no : Int) : Calls Tryz.prog 26 #[.pointer (some ⟨b, 0, none⟩), .int .i64 no] w fun e w' => e = .returned (.tuple #[.agg (bcells (if x.off then zeros 256 else if x.has no then x.bd no else zeros 256)), .int .i64 (if x.off then 12 else if x.has no then 0 else 2)]) ∧ Cch w' ro c b g x (T + 1) ∧ Tr ro ro w w' := by
  obtain ⟨d, hd, d1, d2, d3, d4, d5, _⟩ := h.dv
  have hl := hd.lt
  have hhas : d.has no = x.has no := by unfold Dev.has DC.has; rw [d1, h.ok.kl]
  have hB : d.readB no = if x.off then zeros 256 else if x.has no then x.bd no else zeros 256 := by
    unfold Dev.readB
    rw [d3, hhas, d1]
    by_cases hh : x.has no = true
    · rw [if_pos hh, if_pos hh]
      unfold DC.bd
      rw [if_pos (DC.has_iff.1 hh).1]
    · rw [if_neg hh, if_neg hh]
  have hE : d.readE no = if x.off then 12 else if x.has no then 0 else 2 := by unfold Dev.readE; rw [d3, hhas]
  refine (read_any b ⟨g, 0, none⟩ d.bl.length no d w hd.ds hd.bks (RK.of_blk hd.bks hd.blk) (Nat.le_refl _) (by have := hd.len; unfold maxLen; omega) hd.ne.symm hl.2 (by omega)).mono ?_
  rintro e w' ⟨rfl, ht, hds⟩
  obtain ⟨r1, r2, r3, r4, r5⟩ := d.read_fields no
  refine ⟨by rw [hB, hE], (h.mono (Nat.le_succ T)).setD (d := d.read no) (y := x) (ht.one g) ⟨by rw [r1]; exact hds, by rw [r1]; exact hd.bks, by rw [r1]; exact hd.blk.turn ht hd.ne.symm hd.ne.symm, hd.ne, by rw [r1]; exact hd.len, by rw [r2]; exact hd.fuse⟩ (r1.trans d1) (r2.trans d2) (r3.trans d3) (r4.trans d4) (by omega) rfl h.ok.fuse⟩
theorem c_image (h : Cch w ro c b g x T) (h0 : 0 < x.base.length) : Calls Tryz.prog 22 #[.pointer (some ⟨b, 0, none⟩)] w fun e w' => ∃ g' c', e = .returned (.slice (some ⟨g', 0, none⟩) x.base.length c') ∧ w.heap.size ≤ g' ∧ g' < w'.heap.size ∧ RK w' (some ⟨g', 0, none⟩) x.base ∧ x.base.length ≤ c' ∧ c' ≤ maxLen ∧ Below w.heap.size w w' := by
  obtain ⟨d, hd, d1, d2, d3, d4, d5, _⟩ := h.dv
  have h1 := image_any b ⟨g, 0, none⟩ d.bl.length d w hd.ds hd.bks (RK.of_blk hd.bks hd.blk) (by rw [d1]; exact h0) hd.len
  rw [d1] at h1
  exact h1
theorem c_last (h : Cch w ro c b g x T) : Calls Tryz.prog 11 #[.pointer (some ⟨c, 0, none⟩)] w fun e w' => e = .returned (.int .i64 (x.last : Int)) ∧ w' = w := by
  obtain ⟨A, S, W, rfl, e2, e3, hp, hs, _⟩ := h
  have h1 := last_any hp
  rw [hs.last] at h1
  exact h1
theorem c_done (h : Cch w ro c b g x T) (id : Int) (hlo : -9223372036854775808 ≤ id) (hhi : id < 9223372036854775808) : Calls Tryz.prog 20 #[.pointer (some ⟨c, 0, none⟩), .int .i64 id] w fun e w' => e = .returned (.bool (x.done id)) ∧ w' = w := by
  obtain ⟨A, S, W, rfl, e2, e3, hp, hs, _⟩ := h
  have h1 := done_any hp id hlo hhi
  rw [hs.last, hs.lf] at h1
  exact h1
theorem c_flush (h : Cch w ro c b g x T) (hT : T ≤ 1000) (no : Int) (hlo : -9223372036854775808 ≤ no) (hhi : no < 9223372036854775808) : Calls Tryz.prog 25 #[.pointer (some ⟨c, 0, none⟩), .int .i64 no] w fun e w' => e = .returned (.int .i64 (x.flushE no)) ∧ ∃ ro', Cch w' ro' c b g (x.flush no) T ∧ Tr ro ro' w w' := by
  obtain ⟨A, S, W, rfl, e2, e3, hp, hs, e6, e7, e8, e9⟩ := h
  refine (flush2_any hp hs (by omega) no hlo hhi).mono ?_
  rintro e w' ⟨rfl, ro', fv', S', h1, t1, s1, _, _, q3, q4⟩
  refine ⟨rfl, ro', ⟨{ A with fv := fv' }, S', W, rfl, e2, e3, h1, s1, e6, e7, by omega, ?_⟩, t1⟩
  have h2 := s1.last
  have h3 := hs.last
  omega
theorem c_upto (h : Cch w ro c b g x T) (hT : T ≤ 1000) (id : Int) (hlo : -9223372036854775808 ≤ id) (hhi : id < 9223372036854775808) : Calls Tryz.prog 31 #[.pointer (some ⟨c, 0, none⟩), .int .i64 id] w fun e w' => e = .returned (.int .i64 (x.upto id).2) ∧ ∃ ro', Cch w' ro' c b g (x.upto id).1 T ∧ Tr ro ro' w w' := by
  obtain ⟨A, S, W, rfl, e2, e3, hp, hs, e6, e7, e8, e9⟩ := h
  refine (upto_any hp hs (by omega) id hlo hhi).mono ?_
  rintro e w' ⟨rfl, ro', fv', S', h1, t1, s1, _, _, q3, q4⟩
  refine ⟨rfl, ro', ⟨{ A with fv := fv' }, S', W, rfl, e2, e3, h1, s1, e6, e7, by omega, ?_⟩, t1⟩
  have h2 := s1.last
  have h3 := hs.last
  omega
theorem c_sync (h : Cch w ro c b g x T) (hT : T ≤ 1000) : Calls Tryz.prog 32 #[.pointer (some ⟨c, 0, none⟩)] w fun e w' => e = .returned (.int .i64 (x.upto (x.last : Int)).2) ∧ ∃ ro', Cch w' ro' c b g (x.upto (x.last : Int)).1 T ∧ Tr ro ro' w w' := by
  obtain ⟨A, S, W, rfl, e2, e3, hp, hs, e6, e7, e8, e9⟩ := h
  refine (sync_any hp hs (by omega)).mono ?_
  rintro e w' ⟨rfl, ro', fv', S', h1, t1, s1, _, _, q3, q4⟩
  refine ⟨rfl, ro', ⟨{ A with fv := fv' }, S', W, rfl, e2, e3, h1, s1, e6, e7, by omega, ?_⟩, t1⟩
  have h2 := s1.last
  have h3 := hs.last
  omega
theorem c_left (h : Cch w ro c b g x T) (hT : T ≤ 1000) : Calls Tryz.prog 16 #[.pointer (some ⟨c, 0, none⟩)] w (RetCH w x.list) := by
  obtain ⟨A, S, W, rfl, e2, e3, hp, hs, e6, e7, e8, e9⟩ := h
  exact left_any hp hs (by omega)
theorem c_dirty (h : Cch w ro c b g x T) (hT : T ≤ 1000) : Calls Tryz.prog 18 #[.pointer (some ⟨c, 0, none⟩)] w fun e w' => ∃ v, e = .returned v ∧ OwnC w' w.heap.size 3 v (ivals (blocksC x.list)) ∧ Below w.heap.size w w' := by
  obtain ⟨A, S, W, rfl, e2, e3, hp, hs, e6, e7, e8, e9⟩ := h
  exact dirty_any hp hs (by omega)
theorem c_put (h : Cch w ro c b g x T) (hT : T ≤ 1000) (no : Int) (hlo : -9223372036854775808 ≤ no) (hhi : no < 9223372036854775808) (p : Pt) (Ap : Option Addr) (np cp : Nat) (hp : PV w p Ap np cp) (An : Option Addr) (nn cn : Nat) (needs : List Int) (hn : needs.length = nn) (hm : nn ≤ 50000) (hnr : RC w An (ivals needs)) (hbn : ∀ x ∈ needs, -9223372036854775808 ≤ x ∧ x < 9223372036854775808) (hfp : ∀ ad, Ap = some ad → ro ad.block = none) (hfn : 0 < nn → ∀ ad, An = some ad → ro ad.block = none) :
    Calls Tryz.prog 24 #[.pointer (some ⟨c, 0, none⟩), .int .i64 no, .agg #[.int .i64 p.at_, .slice Ap np cp], .slice An nn cn] w fun e w' => e = .returned (.tuple #[.int .i64 (x.putN ⟨0, no, p, needs⟩), .int .i64 (x.putE ⟨0, no, p, needs⟩)]) ∧ ∃ ro', Cch w' ro' c b g (x.put ⟨0, no, p, needs⟩) (T + 1) ∧ Tr ro ro' w w' := by
  obtain ⟨A, S, W, rfl, e2, e3, hpp, hs, e6, e7, e8, e9⟩ := h
  have hE := hs.putE no p needs
  refine (put_any hpp (hs.bd (by omega)) no hlo hhi (by omega) (by omega) (by omega) p Ap np cp hp An nn cn needs hn hm hnr hbn hfp hfn).mono ?_
  rintro e w' (⟨h1, rfl, h2, t2⟩ | ⟨h1, ro', A', rfl, h2, t2, hlk⟩)
  · rw [hE] at h1
    refine ⟨?_, ro, ⟨A, S, W, rfl, e2, e3, h2, ?_, by omega, by omega, by omega, ?_⟩, t2⟩
    · rw [hE]
      unfold DC.putN
      rw [if_neg h1]
    · rw [DC.put_no h1]; exact hs
    · rw [DC.put_no h1]; omega
  · rw [hE] at h1
    have h3 := (DC.putE_ok h1).2.2
    obtain ⟨k1, k2⟩ := hs.known (no := no) h3
    obtain ⟨q1, q2⟩ := DC.put_known h1
    obtain ⟨W', hs'⟩ := k1.put (no := no) (p := p) (needs := needs) q1 (S.known_kn no)
    rw [q2] at hs'
    refine ⟨?_, ro', ⟨A', _, W', hlk.ca, hlk.dv.trans e2, hlk.dt.trans e3, h2, hs', by have := hlk.nb; omega, by have := hlk.nl; omega, ?_, ?_⟩, t2⟩
    · rw [hs.last, h1]
      unfold DC.putN
      rw [if_pos h1]
    · show (S.known no).dev.rd ≤ T + 1
      omega
    · unfold DC.put
      rw [if_pos h1]
      show x.last + 1 ≤ T + 1
      omega
end
theorem Sim.new : Sim (CS.new (Dev.new 16)) (DC.new 16) (fun _ => []) := by
  refine ⟨DC.new_ok 16, rfl, fun k => ?_, fun i => rfl, fun i => ⟨fun h => (by cases h), fun h => ?_⟩, Int.le_refl _, Int.le_refl _, fun c hc => (by cases hc), fun h => ?_, rfl, rfl, rfl, rfl, fun k h => (by cases h), fun k h => (by cases h), fun k h => (by cases h), ⟨fun c hc => (by cases hc), fun c hc => (by cases hc), fun c hc => (by cases hc), fun c hc => (by cases hc)⟩, fun k h => (by cases h), fun j hj => (by cases hj), fun i hi => (by cases hi), fun k h => (by cases h), fun i h => (by cases h)⟩
  · show false = DC.kn (DC.new 16) k
    unfold DC.kn
    have : (DC.new 16).knows.getD k.toNat false = false := by
      show (List.replicate 16 false).getD k.toNat false = false
      rw [List.getD_eq_getElem?_getD]
      by_cases hk : k.toNat < 16
      · rw [List.getElem?_replicate_of_lt hk]; rfl
      · rw [List.getElem?_eq_none (by rw [List.length_replicate]; omega)]; rfl
    rw [this, Bool.and_false]
  · have h1 := h.1
    have h2 : i ≤ ((DC.new 16).last : Int) := h.2
    have : (DC.new 16).last = 0 := rfl
    rw [this] at h2
    omega
  · exact absurd h (by show ¬ (0 : Int) < 0; omega)
theorem c_new (b g : Nat) (w : World) (h : DV w b g (Dev.new 16)) : Calls Tryz.prog 7 #[.pointer (some ⟨b, 0, none⟩)] w fun e w' => ∃ ro c, e = .returned (.pointer (some ⟨c, 0, none⟩)) ∧ Cch w' ro c b g (DC.new 16) 0 ∧ Tr (roD b g) ro w w' := by
  refine (cnew_any b g (Dev.new 16) w h).mono ?_
  rintro e w' ⟨ro, A, rfl, h1, t1, e1, e2, e3, e4⟩
  exact ⟨ro, A.ca, rfl, ⟨A, _, _, rfl, e1, e2, h1, Sim.new, by omega, by omega, Nat.le_refl _, Nat.le_refl _⟩, t1⟩

end Go.Proofs.YtknbjdldmednlaaGreat
