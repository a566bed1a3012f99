/-
  Texts of this claim joined: Cac1, Ref10, Ref10b.
-/
import Derived.Test.YtpmbpklbiocclaaGreatGrAS
import Derived.Test.YtpmbpklbiocclaaGreatGrAT
import Derived.Test.YtpmbpklbiocclaaGreatGrAV
import Derived.Test.YtpmbpklbiocclaaGreatGrAA

/-
  A cache on its device, as the document has it: what each call tells, and how it stands behind it.
-/
namespace Go.Proofs.YtpmbpklbiocclaaGreat
open Go.RowKit

def Cch (w : World) (ro : Nat → Option Rl) (c b g : Nat) (x : DC) (T : Nat) : Prop :=
  ∃ A S W, A.ca = c ∧ A.dv = b ∧ A.dt = g ∧ HP w ro A S ∧ Sim S x W ∧ A.nb ≤ T ∧ A.nl ≤ T ∧ S.dev.rd ≤ T ∧ x.last ≤ T
section
variable {w w' : World} {ro : Nat → Option Rl} {c b g : Nat} {x : DC} {T : Nat}
theorem Cch.ext (h : Cch w ro c b g x T) (hb : Below w.heap.size w w') : Cch w' ro c b g x T := by
  obtain ⟨A, S, W, h1, h2, h3, h4, h5⟩ := h
  exact ⟨A, S, W, h1, h2, h3, h4.ext hb, h5⟩
theorem Cch.only_none (h : Cch w ro c b g x T) {q : Nat} (ho : Only w w' q) (hg : ro q = none) : Cch w' ro c b g x T := by
  obtain ⟨A, S, W, h1, h2, h3, h4, h5⟩ := h
  exact ⟨A, S, W, h1, h2, h3, h4.only_none ho hg, h5⟩
theorem Cch.none_ge (h : Cch w ro c b g x T) {q : Nat} (hq : w.heap.size ≤ q) : ro q = none := by
  obtain ⟨A, S, W, h1, h2, h3, h4, h5⟩ := h
  exact h4.none_ge hq
theorem Cch.mono (h : Cch w ro c b g x T) {T' : Nat} (ht : T ≤ T') : Cch w ro c b g x T' := by
  obtain ⟨A, S, W, h1, h2, h3, h4, h5, h6, h7, h8, h9⟩ := h
  exact ⟨A, S, W, h1, h2, h3, h4, h5, by omega, by omega, by omega, by omega⟩
theorem Cch.ok (h : Cch w ro c b g x T) : x.Ok := by
  obtain ⟨A, S, W, _, _, _, _, h5, _⟩ := h
  exact h5.ok
theorem Cch.last (h : Cch w ro c b g x T) : x.last ≤ T := by
  obtain ⟨A, S, W, _, _, _, _, _, _, _, _, h9⟩ := h
  exact h9
theorem Cch.dv (h : Cch w ro c b g x T) : ∃ d, DV w b g d ∧ d.bl = x.base ∧ d.fuse = x.fuse ∧ d.off = x.off ∧ d.wr = x.wrote ∧ d.rd ≤ T ∧ ro b = some .dv ∧ ro g = some .dv := by
  obtain ⟨A, S, W, h1, h2, h3, h4, h5, h6, h7, h8, h9⟩ := h
  subst h2; subst h3
  exact ⟨S.dev, h4.dvw, h5.bl, h5.fuse, h5.off, h5.wr, h8, (h4.asn .dv).1, (h4.asn .dv).2.1⟩
theorem Cch.setD (h : Cch w ro c b g x T) {d : Dev} {y : DC} (ht : Turn w w' b g) (hd : DV w' b g d) (h1 : d.bl = x.base) (h2 : d.fuse = y.fuse) (h3 : d.off = y.off) (h4 : d.wr = x.wrote) (h5 : d.rd ≤ T) (hy : y = { x with fuse := y.fuse, off := y.off }) (hf : -1 ≤ y.fuse) : Cch w' ro c b g y T ∧ Tr ro ro w w' := by
  obtain ⟨A, S, W, e1, e2, e3, hp, hs, e6, e7, e8, e9⟩ := h
  subst e2; subst e3
  rw [hy]
  refine ⟨⟨A, { S with dev := d }, W, e1, rfl, rfl, hp.setD d ht hd, ?_, e6, e7, h5, e9⟩, ht.tr2 hp⟩
  exact ⟨⟨hs.ok.may, hs.ok.ids, hs.ok.blk, hs.ok.knw, hs.ok.bks, hs.ok.kl, hf, hs.ok.wrote, hs.ok.nlen⟩, hs.last, hs.kn, hs.lf, hs.live, hs.en0, hs.en1, hs.en2, hs.en3, h1, h2, h3, h4, hs.base, hs.view, hs.dirty, hs.dep, hs.lat, hs.waits, hs.beh, hs.free, hs.behL⟩
theorem c_fuse (h : Cch w ro c b g x T) (n : Int) (hn : n < 9223372036854775808) : Calls Tryz.prog 54 #[.pointer (some ⟨b, 0, none⟩), .int .i64 n] w fun e w' => e = .returned (.tuple #[]) ∧ Cch w' ro c b g (x.setFuse n) T ∧ Tr ro ro w w' := by
  obtain ⟨d, hd, d1, d2, d3, d4, d5, _⟩ := h.dv
  refine (fuse_any b g n d w hd hn).mono ?_
  rintro e w' ⟨rfl, ho, hd'⟩
  refine ⟨rfl, h.setD (Turn.of_only ho g) hd' d1 ?_ d3 d4 d5 rfl ?_⟩
  · rfl
  · show -1 ≤ (if n < 0 then -1 else n)
    split <;> omega
theorem c_up (h : Cch w ro c b g x T) : Calls Tryz.prog 13 #[.pointer (some ⟨b, 0, none⟩)] w fun e w' => e = .returned (.tuple #[]) ∧ Cch w' ro c b g x.up T ∧ Tr ro ro w w' := by
  obtain ⟨d, hd, d1, d2, d3, d4, d5, _⟩ := h.dv
  refine (up_any b g d w hd).mono ?_
  rintro e w' ⟨rfl, ho, hd'⟩
  exact ⟨rfl, h.setD (Turn.of_only ho g) hd' d1 rfl rfl d4 d5 rfl (by show (-1 : Int) ≤ -1; omega)⟩
theorem c_writes (h : Cch w ro c b g x T) : Calls Tryz.prog 18 #[.pointer (some ⟨b, 0, none⟩)] w fun e w' => e = .returned (.int .i64 (x.wrote : Int)) ∧ w' = w := by
  obtain ⟨d, hd, d1, d2, d3, d4, d5, _⟩ := h.dv
  have h1 := writes_any (h := hd.ds)
  rw [d4] at h1
  exact h1
theorem c_last (h : Cch w ro c b g x T) : Calls Tryz.prog 33 #[.pointer (some ⟨c, 0, none⟩)] w fun e w' => e = .returned (.int .i64 (x.last : Int)) ∧ w' = w := by
  obtain ⟨A, S, W, rfl, e2, e3, hp, hs, _⟩ := h
  have h1 := last_any hp
  rw [hs.last] at h1
  exact h1
theorem c_flush (h : Cch w ro c b g x T) (hT : T ≤ 1000) (no : Int) (hlo : -9223372036854775808 ≤ no) (hhi : no < 9223372036854775808) : Calls Tryz.prog 32 #[.pointer (some ⟨c, 0, none⟩), .int .i64 no] w fun e w' => e = .returned (.int .i64 (x.flushE no)) ∧ ∃ ro', Cch w' ro' c b g (x.flush no) T ∧ Tr ro ro' w w' := by
  obtain ⟨A, S, W, rfl, e2, e3, hp, hs, e6, e7, e8, e9⟩ := h
  refine (flush2_any hp hs (by omega) no hlo hhi).mono ?_
  rintro e w' ⟨rfl, ro', fv', S', h1, t1, s1, _, _, q3, q4⟩
  refine ⟨rfl, ro', ⟨{ A with fv := fv' }, S', W, rfl, e2, e3, h1, s1, e6, e7, by omega, ?_⟩, t1⟩
  have h2 := s1.last
  have h3 := hs.last
  omega
theorem c_upto (h : Cch w ro c b g x T) (hT : T ≤ 1000) (id : Int) (hlo : -9223372036854775808 ≤ id) (hhi : id < 9223372036854775808) : Calls Tryz.prog 52 #[.pointer (some ⟨c, 0, none⟩), .int .i64 id] w fun e w' => e = .returned (.int .i64 (x.upto id).2) ∧ ∃ ro', Cch w' ro' c b g (x.upto id).1 T ∧ Tr ro ro' w w' := by
  obtain ⟨A, S, W, rfl, e2, e3, hp, hs, e6, e7, e8, e9⟩ := h
  refine (upto_any hp hs (by omega) id hlo hhi).mono ?_
  rintro e w' ⟨rfl, ro', fv', S', h1, t1, s1, _, _, q3, q4⟩
  refine ⟨rfl, ro', ⟨{ A with fv := fv' }, S', W, rfl, e2, e3, h1, s1, e6, e7, by omega, ?_⟩, t1⟩
  have h2 := s1.last
  have h3 := hs.last
  omega
theorem c_sync (h : Cch w ro c b g x T) (hT : T ≤ 1000) : Calls Tryz.prog 53 #[.pointer (some ⟨c, 0, none⟩)] w fun e w' => e = .returned (.int .i64 (x.upto (x.last : Int)).2) ∧ ∃ ro', Cch w' ro' c b g (x.upto (x.last : Int)).1 T ∧ Tr ro ro' w w' := by
  obtain ⟨A, S, W, rfl, e2, e3, hp, hs, e6, e7, e8, e9⟩ := h
  refine (sync_any hp hs (by omega)).mono ?_
  rintro e w' ⟨rfl, ro', fv', S', h1, t1, s1, _, _, q3, q4⟩
  refine ⟨rfl, ro', ⟨{ A with fv := fv' }, S', W, rfl, e2, e3, h1, s1, e6, e7, by omega, ?_⟩, t1⟩
  have h2 := s1.last
  have h3 := hs.last
  omega
theorem c_left (h : Cch w ro c b g x T) (hT : T ≤ 1000) : Calls Tryz.prog 16 #[.pointer (some ⟨c, 0, none⟩)] w (RetCH w x.list) := by
  obtain ⟨A, S, W, rfl, e2, e3, hp, hs, e6, e7, e8, e9⟩ := h
  exact left_any hp hs (by omega)
theorem c_dirty (h : Cch w ro c b g x T) (hT : T ≤ 1000) : Calls Tryz.prog 29 #[.pointer (some ⟨c, 0, none⟩)] w fun e w' => ∃ v, e = .returned v ∧ OwnC w' w.heap.size 3 v (ivals (blocksC x.list)) ∧ Below w.heap.size w w' := by
  obtain ⟨A, S, W, rfl, e2, e3, hp, hs, e6, e7, e8, e9⟩ := h
  exact dirty_any hp hs (by omega)
theorem c_put (h : Cch w ro c b g x T) (hT : T ≤ 1000) (no : Int) (hlo : -9223372036854775808 ≤ no) (hhi : no < 9223372036854775808) (p : Pt) (Ap : Option Addr) (np cp : Nat) (hp : PV w p Ap np cp) (An : Option Addr) (nn cn : Nat) (needs : List Int) (hn : needs.length = nn) (hm : nn ≤ 50000) (hnr : RC w An (ivals needs)) (hbn : ∀ x ∈ needs, -9223372036854775808 ≤ x ∧ x < 9223372036854775808) (hfp : ∀ ad, Ap = some ad → ro ad.block = none) (hfn : 0 < nn → ∀ ad, An = some ad → ro ad.block = none) :
    Calls Tryz.prog 21 #[.pointer (some ⟨c, 0, none⟩), .int .i64 no, .agg #[.int .i64 p.at_, .slice Ap np cp], .slice An nn cn] w fun e w' => e = .returned (.tuple #[.int .i64 (x.putN ⟨0, no, p, needs⟩), .int .i64 (x.putE ⟨0, no, p, needs⟩)]) ∧ ∃ ro', Cch w' ro' c b g (x.put ⟨0, no, p, needs⟩) (T + 1) ∧ Tr ro ro' w w' := by
  obtain ⟨A, S, W, rfl, e2, e3, hpp, hs, e6, e7, e8, e9⟩ := h
  have hE := hs.putE no p needs
  refine (put_any hpp (hs.bd (by omega)) no hlo hhi (by omega) (by omega) (by omega) p Ap np cp hp An nn cn needs hn hm hnr hbn hfp hfn).mono ?_
  rintro e w' (⟨h1, rfl, h2, t2⟩ | ⟨h1, ro', A', rfl, h2, t2, hlk⟩)
  · rw [hE] at h1
    refine ⟨?_, ro, ⟨A, S, W, rfl, e2, e3, h2, ?_, by omega, by omega, by omega, ?_⟩, t2⟩
    · rw [hE]
      unfold DC.putN
      rw [if_neg h1]
    · rw [DC.put_no h1]; exact hs
    · rw [DC.put_no h1]; omega
  · rw [hE] at h1
    have h3 := (DC.putE_ok h1).2.2
    obtain ⟨k1, k2⟩ := hs.known (no := no) h3
    obtain ⟨q1, q2⟩ := DC.put_known h1
    obtain ⟨W', hs'⟩ := k1.put (no := no) (p := p) (needs := needs) q1 (S.known_kn no)
    rw [q2] at hs'
    refine ⟨?_, ro', ⟨A', _, W', hlk.ca, hlk.dv.trans e2, hlk.dt.trans e3, h2, hs', by have := hlk.nb; omega, by have := hlk.nl; omega, ?_, ?_⟩, t2⟩
    · rw [hs.last, h1]
      unfold DC.putN
      rw [if_pos h1]
    · show (S.known no).dev.rd ≤ T + 1
      omega
    · unfold DC.put
      rw [if_pos h1]
      show x.last + 1 ≤ T + 1
      omega
theorem c_get (h : Cch w ro c b g x T) (hT : T ≤ 1000) (no : Int) (hlo : -9223372036854775808 ≤ no) (hhi : no < 9223372036854775808) :
    Calls Tryz.prog 17 #[.pointer (some ⟨c, 0, none⟩), .int .i64 no] w fun e w' => e = .returned (.tuple #[.agg (bcells (if x.knownE no = 0 then viewC (x.bd no) x.list no else zeros 256)), .int .i64 (x.knownE no)]) ∧ ∃ ro', Cch w' ro' c b g (x.known no) (T + 1) ∧ Tr ro ro' w w' := by
  obtain ⟨A, S, W, rfl, e2, e3, hpp, hs, e6, e7, e8, e9⟩ := h
  have hE := hs.knE no
  have hlk := (x.known_fields no).2.2.1
  refine (get_any hpp no hlo hhi (by omega) (by omega)).mono ?_
  rintro e w' (⟨hk, rfl, h2, t2⟩ | ⟨hk, hE0, rfl, h2, t2⟩ | ⟨hk, hE0, ro', q, rfl, h2, t2⟩)
  · have h0 : x.knownE no = 0 := by rw [← hE]; exact if_pos hk
    obtain ⟨k1, k2⟩ := hs.known (no := no) h0
    unfold CS.known at k1 k2
    rw [if_pos hk] at k1 k2
    rw [h0, if_pos rfl, hs.view no hk]
    exact ⟨rfl, ro, ⟨A, S, W, rfl, e2, e3, h2, k1, by omega, by omega, by omega, by omega⟩, t2⟩
  · have e1 : S.knE no = S.dev.readE no := if_neg (by rw [hk]; simp)
    rw [Dev.read_not hE0] at h2
    have h0 : x.knownE no = S.dev.readE no := by rw [← hE, e1]
    have hkn : x.known no = x := by unfold DC.known; rw [if_neg (by rw [h0]; exact hE0)]
    rw [h0, if_neg hE0, hkn]
    exact ⟨rfl, ro, ⟨A, S, W, rfl, e2, e3, h2, hs, by omega, by omega, by omega, by omega⟩, t2⟩
  · have h0 : x.knownE no = 0 := by rw [← hE]; exact (if_neg (by rw [hk]; simp)).trans hE0
    obtain ⟨k1, k2⟩ := hs.known (no := no) h0
    have hv := k1.view no (S.known_kn no)
    rw [x.known_bd, (x.known_fields no).1] at hv
    unfold CS.known at k1 k2 hv
    rw [if_neg (by rw [hk]; simp)] at k1 k2 hv
    rw [h0, if_pos rfl, ← hv]
    refine ⟨?_, ro', ⟨A.know no q, _, W, rfl, e2, e3, h2, k1, by show A.nb + 1 ≤ _; omega, by show A.nl ≤ _; omega, by omega, by omega⟩, t2⟩
    show _ = Ending.returned (.tuple #[.agg (bcells (updF S.view no (S.dev.readB no) no)), .int .i64 0])
    rw [updF_same]
end
theorem Sim.new : Sim (CS.new (Dev.new 16)) (DC.new 16) (fun _ => []) := by
  refine ⟨DC.new_ok 16, rfl, fun k => ?_, fun i => rfl, fun i => ⟨fun h => (by cases h), fun h => ?_⟩, Int.le_refl _, Int.le_refl _, fun c hc => (by cases hc), fun h => ?_, rfl, rfl, rfl, rfl, fun k h => (by cases h), fun k h => (by cases h), fun k h => (by cases h), ⟨fun c hc => (by cases hc), fun c hc => (by cases hc), fun c hc => (by cases hc), fun c hc => (by cases hc)⟩, fun k h => (by cases h), fun j hj => (by cases hj), fun i hi => (by cases hi), fun k h => (by cases h), fun i h => (by cases h)⟩
  · show false = DC.kn (DC.new 16) k
    unfold DC.kn
    have : (DC.new 16).knows.getD k.toNat false = false := by
      show (List.replicate 16 false).getD k.toNat false = false
      rw [List.getD_eq_getElem?_getD]
      by_cases hk : k.toNat < 16
      · rw [List.getElem?_replicate_of_lt hk]; rfl
      · rw [List.getElem?_eq_none (by rw [List.length_replicate]; omega)]; rfl
    rw [this, Bool.and_false]
  · have h1 := h.1
    have h2 : i ≤ ((DC.new 16).last : Int) := h.2
    have : (DC.new 16).last = 0 := rfl
    rw [this] at h2
    omega
  · exact absurd h (by show ¬ (0 : Int) < 0; omega)
theorem c_new (b g : Nat) (w : World) (h : DV w b g (Dev.new 16)) : Calls Tryz.prog 19 #[.pointer (some ⟨b, 0, none⟩)] w fun e w' => ∃ ro c, e = .returned (.pointer (some ⟨c, 0, none⟩)) ∧ Cch w' ro c b g (DC.new 16) 0 ∧ Tr (roD b g) ro w w' := by
  refine (cnew_any b g (Dev.new 16) w h).mono ?_
  rintro e w' ⟨ro, A, rfl, h1, t1, e1, e2, e3, e4⟩
  exact ⟨ro, A.ca, rfl, ⟨A, _, _, rfl, e1, e2, h1, Sim.new, by omega, by omega, Nat.le_refl _, Nat.le_refl _⟩, t1⟩

end Go.Proofs.YtpmbpklbiocclaaGreat

/-
  Contracts of the document's answer 10: Laid, View, Image, Held.
-/
namespace Go.Proofs.YtpmbpklbiocclaaGreat
open Go.RowKit

def pickF (block : Int) (ids : List Int) (all : Bool) (c : Cg) : Bool := decide (c.block = block) && (all || ids.contains c.id)
theorem laid_on {L : List UInt8} {l : List Cg} {f : Cg → Bool} {k : Nat} (hk : k < l.length) (h : f l[k] = true) : laidC L ((l.take (k + 1)).filter f) = layP (laidC L ((l.take k).filter f)) l[k].p := by
  rw [List.take_succ_eq_append_getElem hk, List.filter_append, laidC_append, List.filter_cons_of_pos h]
  rfl
theorem laid_off {L : List UInt8} {l : List Cg} {f : Cg → Bool} {k : Nat} (hk : k < l.length) (h : f l[k] = false) : laidC L ((l.take (k + 1)).filter f) = laidC L ((l.take k).filter f) := by
  rw [List.take_succ_eq_append_getElem hk, List.filter_append, List.filter_cons_of_neg (by simp [h])]
  simp
theorem pickF_ids (l : List Cg) (block : Int) (ids : List Int) : l.filter (pickF block ids false) = (ofC l block).filter fun c => ids.contains c.id := by
  unfold ofC
  rw [List.filter_filter]
  apply List.filter_congr
  intro c _
  simp [pickF, Bool.and_comm]

set_option maxRecDepth 100000 in
set_option maxHeartbeats 4000000 in
theorem rlaid10O_any (B : Option Addr) (nb cb : Nat) (L : List UInt8) (hL : L.length = 256) (hnb : L.length = nb) (hcb : nb ≤ cb) (hmb : cb ≤ maxLen) (A : Option Addr) (n cap : Nat) (l : List Cg) (hn : l.length = n) (hm : n ≤ 4096) (block : Int) (Ai : Option Addr) (ni ci : Nat) (ids : List Int) (hni : ids.length = ni) (hmi : ni ≤ 4096) (all : Bool) (w : World) (hb : RB w B L) (hr : RdL RdC w A 5 l) (hri : RC w Ai (ivals ids)) :
    Calls Tryz.prog 90 #[.slice B nb cb, .slice A n cap, .int .i64 block, .slice Ai ni ci, .bool all] w (RetBO w B (laidC L (l.filter (pickF block ids all)))) := by
  have HL := Lib.hid hL
  have Hn := Lib.hid hn
  have Hr := Lib.hid hr
  have Hb := Lib.hid hb
  have Hnb := Lib.hid hnb
  have Hni := Lib.hid hni
  have Hri := Lib.hid hri
  clear hL hn hr hb hnb hni hri
  go_enter Tryz.func90, Tryz.ntmps90
  go_wp2_with fail
  go_loopw [0, 11] (fun v i wr => ∃ (k : Nat) (B' : Option Addr) (nb' cb' : Nat), k ≤ n ∧ i = .int .i64 k ∧ v = .slice B' nb' cb' ∧ (laidC L ((l.take k).filter (pickF block ids all))).length = nb' ∧ nb' ≤ cb' ∧ cb' ≤ maxLen ∧ RB wr B' (laidC L ((l.take k).filter (pickF block ids all))) ∧ Below w.heap.size w wr ∧ (B' = B ∨ ∀ ad, B' = some ad → w.heap.size ≤ ad.block)) (fun _ i _ => n - (intOf i).toNat)
  case atStart => exact ⟨0, B, nb, cb, Nat.zero_le _, rfl, rfl, Hnb.out, hcb, hmb, Hb.out, Below.refl _ _, Or.inl rfl⟩
  case round =>
    obtain ⟨k, B', nb', cb', hk, rfl, rfl, hl, hc1, hc2, hb', hbw, hor⟩ := hrel
    have Hl := Lib.hid hl
    have Hb' := Lib.hid hb'
    have Hbw := Lib.hid hbw
    have Hc := Lib.hid (show nb' ≤ cb' ∧ cb' ≤ maxLen from ⟨hc1, hc2⟩)
    have HO := Lib.hid hor
    clear hl hb' hbw hc1 hc2 hor
    by_cases hlt : k < n
    · have d0 : decide ((k : Int) < n) = true := by simpa using hlt
      have hkl : k < l.length := by rw [Hn.out]; exact hlt
      have z1 : (k : Int) < n := by omega
      obtain ⟨ad, Ad, nd, cd, An, nn, cn, rfl, hcv, h0, h1, h2, h3, -⟩ := Hr.out.cg hkl
      have Hon := Lib.hid (laid_on (L := L) (f := pickF block ids all) hkl)
      have Hoff := Lib.hid (laid_off (L := L) (f := pickF block ids all) hkl)
      have HM := Lib.hid (laidC_len ((l.take k).filter (pickF block ids all)) HL.out)
      have tr := fun {ad : Addr} {v : Value} (h : w.cell? ad = some v) => (Hbw.out.cell (block_lt_of_cell h)).trans h
      have c0 := tr h0
      have c1 := cell_fld c0 (tr h1)
      have F2 := Lib.hid (cell_fld c0 (tr h2))
      have F3 := Lib.hid (cell_fld1 c0 (tr h3))
      have Hcv := Lib.hid (hcv.below Hbw.out)
      clear h0 h1 h2 h3 hcv tr
      have Hpk : pickF block ids all l[k] = (decide (l[k].block = block) && (all || ids.contains l[k].id)) := rfl
      generalize pickF block ids all l[k] = pk at *
      generalize l[k] = c at *
      generalize laidC L ((l.take k).filter (pickF block ids all)) = M at *
      clear hkl
      obtain ⟨b, hbb⟩ : ∃ b, ids.contains c.id = b := ⟨_, rfl⟩
      rw [hbb] at Hpk
      have HBB := Lib.hid hbb
      clear hbb
      have Hpk := Lib.hid Hpk
      by_cases hb : c.block = block
      · have e1 : (c.block == block) = true := by simpa using hb
        have HP := Lib.hid (show pk = (all || b) by rw [Hpk.out, decide_eq_true hb]; rfl)
        clear hb
        cases all
        · go_wp2_with fail
          refine (rin9_is Ai ni ci ids Hni.out (by unfold maxLen; omega) c.id b HBB.out _ (Hri.out.below Hbw.out)).mono ?_; rintro e wx ⟨rfl, rfl⟩
          cases b
          · have HX := Lib.hid (Hoff.out HP.out)
            go_wp2_with fail
            go_roundw
            case rel => exact ⟨k + 1, B', nb', cb', by omega, by go_num, rfl, by rw [HX.out]; exact Hl.out, Hc.out.1, Hc.out.2, by rw [HX.out]; exact Hb'.out, Hbw.out, HO.out⟩
            case measure => simp [intOf]; omega
          · have HX := Lib.hid (Hon.out HP.out)
            go_wp2_with (refine wpList_load_pair rfl _ _ rfl ⟨(ad.add (k * 5)).block, (ad.add (k * 5)).off + 2, none⟩ rfl (.int .i64 c.p.at_) (.slice Ad nd cd) F2.out F3.out _ Tryz.underlying58 Tryz.rpatchSize ?_)
            refine (rlaypO_any B' nb' cb' M HM.out Hl.out Hc.out.1 Hc.out.2 c.p Ad nd cd _ Hb'.out Hcv.out.p).mono ?_; rintro e w2 ⟨B2, n2, c2, rfl, h1, h2, h3, h4, h5, h6⟩
            have H1 := Lib.hid h1
            have H4 := Lib.hid h4
            have H5 := Lib.hid (bt Hbw.out h5)
            have H2 := Lib.hid (show n2 ≤ c2 ∧ c2 ≤ maxLen from ⟨h2, h3⟩)
            have HO2 := Lib.hid (show B2 = B ∨ ∀ ad, B2 = some ad → w.heap.size ≤ ad.block from by
              rcases h6 with h6 | h6
              · rw [h6]; exact HO.out
              · exact Or.inr fun ad e => Nat.le_trans Hbw.out.size (h6 ad e))
            clear h1 h2 h3 h4 h5 h6
            go_wp2_with fail
            go_roundw
            case rel => exact ⟨k + 1, B2, n2, c2, by omega, by go_num, rfl, by rw [HX.out]; exact H1.out, H2.out.1, H2.out.2, by rw [HX.out]; exact H4.out, H5.out, HO2.out⟩
            case measure => simp [intOf]; omega
        · have HX := Lib.hid (Hon.out HP.out)
          go_wp2_with (refine wpList_load_pair rfl _ _ rfl ⟨(ad.add (k * 5)).block, (ad.add (k * 5)).off + 2, none⟩ rfl (.int .i64 c.p.at_) (.slice Ad nd cd) F2.out F3.out _ Tryz.underlying58 Tryz.rpatchSize ?_)
          refine (rlaypO_any B' nb' cb' M HM.out Hl.out Hc.out.1 Hc.out.2 c.p Ad nd cd _ Hb'.out Hcv.out.p).mono ?_; rintro e w2 ⟨B2, n2, c2, rfl, h1, h2, h3, h4, h5, h6⟩
          have H1 := Lib.hid h1
          have H4 := Lib.hid h4
          have H5 := Lib.hid (bt Hbw.out h5)
          have H2 := Lib.hid (show n2 ≤ c2 ∧ c2 ≤ maxLen from ⟨h2, h3⟩)
          have HO2 := Lib.hid (show B2 = B ∨ ∀ ad, B2 = some ad → w.heap.size ≤ ad.block from by
            rcases h6 with h6 | h6
            · rw [h6]; exact HO.out
            · exact Or.inr fun ad e => Nat.le_trans Hbw.out.size (h6 ad e))
          clear h1 h2 h3 h4 h5 h6
          go_wp2_with fail
          go_roundw
          case rel => exact ⟨k + 1, B2, n2, c2, by omega, by go_num, rfl, by rw [HX.out]; exact H1.out, H2.out.1, H2.out.2, by rw [HX.out]; exact H4.out, H5.out, HO2.out⟩
          case measure => simp [intOf]; omega
      · have e1 : (c.block == block) = false := by simpa using hb
        have HX := Lib.hid (Hoff.out (by rw [Hpk.out, decide_eq_false hb]; rfl))
        clear hb
        go_wp2_with fail
        go_roundw
        case rel => exact ⟨k + 1, B', nb', cb', by omega, by go_num, rfl, by rw [HX.out]; exact Hl.out, Hc.out.1, Hc.out.2, by rw [HX.out]; exact Hb'.out, Hbw.out, HO.out⟩
        case measure => simp [intOf]; omega
    · have d0 : decide ((k : Int) < n) = false := by simpa using hlt
      have e1 : l.take k = l := List.take_of_length_le (by rw [Hn.out]; omega)
      rw [e1] at Hl Hb'
      clear e1
      go_wp2_with fail
      go_ret
      exact ⟨_, _, _, rfl, Hl.out, Hc.out.1, Hc.out.2, Hb'.out, Hbw.out, HO.out⟩

end Go.Proofs.YtpmbpklbiocclaaGreat

/-
  Contracts of the document's answer 10: View, Image, Held.
-/
namespace Go.Proofs.YtpmbpklbiocclaaGreat
open Go.RowKit


set_option maxRecDepth 100000 in
set_option maxHeartbeats 4000000 in
theorem rimage10O_any (B : Option Addr) (nb cb : Nat) (L : List UInt8) (hL : L.length = 256) (hnb : L.length = nb) (hcb : nb ≤ cb) (hmb : cb ≤ maxLen) (A : Option Addr) (n cap : Nat) (l : List Cg) (hn : l.length = n) (hm : n ≤ 4096) (hN : ∀ c ∈ l, c.needs.length ≤ 4096) (block : Int) (w : World) (hb : RB w B L) (hr : RdL RdC w A 5 l) :
    Calls Tryz.prog 60 #[.slice B nb cb, .slice A n cap, .int .i64 block] w (RetBO w B (imageC L l block)) := by
  have Hv := Lib.hid (show imageC L l block = laidC L (l.filter (pickF block (readyC l block) false)) by rw [pickF_ids]; rfl)
  have Hlen := Lib.hid (show (readyC l block).length ≤ 4096 by have h := (readyC_sub (l := l) (block := block)).length_le; rw [List.length_map] at h; omega)
  generalize imageC L l block = V at *
  have Hn := Lib.hid hn
  have Hr := Lib.hid hr
  have Hb := Lib.hid hb
  have Hnb := Lib.hid hnb
  have HN := Lib.hid hN
  clear hn hr hb hnb hN
  go_enter Tryz.func60, Tryz.ntmps60
  go_wp2_with fail
  refine (rready9_any A n cap l Hn.out hm HN.out block _ Hr.out).mono ?_; rintro e w2 ⟨Ai, ni, ci, rfl, g1, g2, g3, g4, g5⟩
  have G1 := Lib.hid g1
  have G4 := Lib.hid g4
  have Hb2 := Lib.hid g5
  clear g1 g2 g3 g4 g5
  generalize readyC l block = ids at *
  go_wp2_with fail
  refine (rlaid10O_any B nb cb L hL Hnb.out hcb hmb A n cap l Hn.out hm block Ai ni ci ids G1.out (by have := Hlen.out; have := G1.out; omega) false _ (Hb.out.below Hb2.out) (Hr.out.below Hb2.out) G4.out).mono ?_; rintro e w3 ⟨B2, n2, c2, rfl, h1, h2, h3, h4, h5, h6⟩
  have H1 := Lib.hid h1
  have H4 := Lib.hid h4
  have H5 := Lib.hid (bt Hb2.out h5)
  have H2 := Lib.hid (show n2 ≤ c2 ∧ c2 ≤ maxLen from ⟨h2, h3⟩)
  have HO := Lib.hid (show B2 = B ∨ ∀ ad, B2 = some ad → w.heap.size ≤ ad.block from h6.imp id fun h ad e => Nat.le_trans Hb2.out.size (h ad e))
  clear h1 h2 h3 h4 h5 h6
  go_wp2_with fail
  go_ret
  exact ⟨_, _, _, rfl, by rw [Hv.out]; exact H1.out, H2.out.1, H2.out.2, by rw [Hv.out]; exact H4.out, H5.out, HO.out⟩




end Go.Proofs.YtpmbpklbiocclaaGreat
