/-
  Texts of this claim joined: Ref12w, WellA, S13A, RealM.
-/
import Derived.Test.YtpmbpklbiocclaaGreatGrAQ
import Derived.Test.YtpmbpklbiocclaaGreatGrAT
import Derived.Test.YtpmbpklbiocclaaGreatGrAV
import Derived.Test.YtpmbpklbiocclaaGreatGrAA
import Derived.Test.YtpmbpklbiocclaaGreatGrAY
import Derived.Test.YtpmbpklbiocclaaGreatGrAZ

/-
  The document's Without, of a list whose blocks are such.
-/
namespace Go.Proofs.YtpmbpklbiocclaaGreat
open Go.RowKit

def RetCP (p : Nat → Prop) (w : World) (l : List Cg) (e : Ending) (w' : World) : Prop := ∃ A n c, e = .returned (.slice A n c) ∧ l.length = n ∧ n ≤ c ∧ c ≤ maxLen ∧ RdL (RdP RdC p) w' A 5 l ∧ (∀ ad, A = some ad → w.heap.size ≤ ad.block) ∧ Below w.heap.size w w'
theorem OwnL.retCP {p : Nat → Prop} {w w' : World} {e : TypeId} {v : Value} {l : List Cg} (h : OwnL (RdP RdC p) w' w.heap.size e 5 v l) (hb : Below w.heap.size w w') : RetCP p w l (.returned v) w' := by
  have hlt := h.lt
  obtain ⟨rows, h1, h2, h3, _⟩ := id h
  obtain ⟨A, c, rfl, q1, q2, q3⟩ := h.read
  refine ⟨A, _, c, rfl, rfl, q1, q2, q3, fun ad e => ?_, hb⟩
  subst e
  exact (hlt ad.block rfl).1
theorem RdL.cgP {w : World} {p : Nat → Prop} {A : Option Addr} {l : List Cg} (h : RdL (RdP RdC p) w A 5 l) {k : Nat} (hk : k < l.length) :
    ∃ ad Ad nd cd An nn cn, A = some ad ∧ CV w l[k] Ad nd cd An nn cn ∧ (∀ q ∈ blocksOf [Value.int .i64 l[k].id, .int .i64 l[k].block, .int .i64 l[k].p.at_, .slice Ad nd cd, .slice An nn cn], p q) ∧ w.cell? (ad.add (k * 5)) = some (.int .i64 l[k].id) ∧ w.cell? ((ad.add (k * 5)).add 1) = some (.int .i64 l[k].block) ∧ w.cell? ((ad.add (k * 5)).add 2) = some (.int .i64 l[k].p.at_) ∧ w.cell? ((ad.add (k * 5)).add 3) = some (.slice Ad nd cd) ∧ w.cell? ((ad.add (k * 5)).add 4) = some (.slice An nn cn) := by
  obtain ⟨ad, r, e, _, ⟨⟨v0, v1, v2, v3, v4, rfl, hr⟩, hlow⟩, hc⟩ := h.at_ hk (by decide)
  obtain ⟨Ad, nd, cd, An, nn, cn, rfl, rfl, rfl, rfl, rfl, hcv⟩ := hr.cv
  have h0 := hc 0 _ rfl
  rw [add_of_add, Nat.add_zero] at h0
  exact ⟨ad, Ad, nd, cd, An, nn, cn, e, hcv, hlow, h0, hc 1 _ rfl, hc 2 _ rfl, hc 3 _ rfl, hc 4 _ rfl⟩
set_option maxRecDepth 100000 in
set_option maxHeartbeats 4000000 in
theorem rwithoutP_any (p : Nat → Prop) (A : Option Addr) (n cap : Nat) (l : List Cg) (hn : l.length = n) (hm : n ≤ 4096) (Ai : Option Addr) (ni ci : Nat) (ids : List Int) (hni : ids.length = ni) (hmi : ni ≤ 4096) (w : World) (hr : RdL (RdP RdC p) w A 5 l) (hri : RC w Ai (ivals ids)) :
    Calls Tryz.prog 61 #[.slice A n cap, .slice Ai ni ci] w (RetCP p w (withoutC l ids)) := by
  have Hn := Lib.hid hn
  have Hr := Lib.hid hr
  have Hni := Lib.hid hni
  have Hri := Lib.hid hri
  clear hni hri
  clear hn hr
  go_enter Tryz.func61, Tryz.ntmps61
  go_wp2_with fail
  go_loopw [5, 6] (fun o i wr => ∃ k : Nat, k ≤ n ∧ i = .int .i64 k ∧ OwnL (RdP RdC p) wr w.heap.size 119 5 o (withoutC (l.take k) ids) ∧ Below w.heap.size w wr) (fun _ i _ => n - (intOf i).toNat)
  case atStart => exact ⟨0, Nat.zero_le _, rfl, OwnL.nil_ _ _ _ _ _, Below.refl _ _⟩
  case round =>
    obtain ⟨k, hk, rfl, hu, hbw⟩ := hrel
    have Hu := Lib.hid hu
    have Hbw := Lib.hid hbw
    clear hu hbw
    by_cases hlt : k < n
    · have d0 : decide ((k : Int) < n) = true := by simpa using hlt
      have hkl : k < l.length := by rw [Hn.out]; exact hlt
      have z1 : (k : Int) < n := by omega
      obtain ⟨ad, Ad, nd, cd, An, nn, cn, rfl, hcv, hlow, h0, h1, h2, h3, h4⟩ := Hr.out.cgP hkl
      have HLow := Lib.hid hlow
      have Hon := Lib.hid (withoutC_on (ids := ids) hkl)
      have Hoff := Lib.hid (withoutC_off (ids := ids) hkl)
      have Hlk := Lib.hid (withoutC_lenk l ids k)
      have tr := fun {ad : Addr} {v : Value} (h : w.cell? ad = some v) => (Hbw.out.cell (block_lt_of_cell h)).trans h
      have C0 := Lib.hid (tr h0)
      have C1 := Lib.hid (tr h1)
      have C2 := Lib.hid (tr h2)
      have C3 := Lib.hid (tr h3)
      have C4 := Lib.hid (tr h4)
      have c0 := C0.out
      have c1 := cell_fld C0.out C1.out
      have Hcv := Lib.hid hcv
      clear h0 h1 h2 h3 h4 hcv tr hlow
      generalize l[k] = c at *
      generalize withoutC (l.take k) ids = L at *
      clear hkl
      obtain ⟨b, hb⟩ : ∃ b, ids.contains c.id = b := ⟨_, rfl⟩
      rw [hb] at Hon Hoff
      have HBB := Lib.hid hb
      clear hb
      go_wp2_with fail
      refine (rin9_is Ai ni ci ids Hni.out (by unfold maxLen; omega) c.id b HBB.out _ (Hri.out.below Hbw.out)).mono ?_; rintro e wx ⟨rfl, rfl⟩
      clear c0 c1
      cases b
      · have HX := Lib.hid (Hoff.out rfl)
        go_wp2_with (first | refine wpList_load_five rfl _ _ rfl (ad.add (k * 5)) rfl _ _ _ _ _ C0.out C1.out C2.out C3.out C4.out _ Tryz.underlying119 Tryz.rchgSize ?_ | refine wpList_build_row rfl _ _ _ rfl Tryz.underlying29 5 72 _ Tryz.rchgInfo (by decide) (by decide) #[.int .i64 c.id, .int .i64 c.block, .int .i64 c.p.at_, .slice Ad nd cd, .slice An nn cn] rfl rfl ?_)
        apply Stop.go; intro wB HgB HbB
        have HuZ := Lib.hid (Hu.out.ext HgB.out.1)
        have HcZ := Lib.hid (Hcv.out.below (bt Hbw.out HgB.out.1))
        have HzB := Lib.hid (Nat.le_trans Hbw.out.size HgB.out.1.size)
        have hl1 : L.length + 1 ≤ 140737488355328 := by have := Hlk.out; omega
        have hl2 : (L.length + 1) * 72 ≤ 140737488355328 := by have := Hlk.out; omega
        go_wp2_with (at_builtin; refine wpList_append_L (RdP RdC p) rfl _ _ _ _ rfl Tryz.underlying29 5 72 _ Tryz.rchgInfo rfl (by decide) w.heap.size _ L rfl HuZ.out _ _ rfl HbB.out rfl (by simp [Value.oneCell']) c ⟨HcZ.out.rd, HLow.out⟩ (fun q hq e => by have h1 := RdC.there Hcv.out.rd q hq; have h2 := (Hu.out.lt q e).1; omega) HzB.out hl1 hl2 ?_)
        apply Stop.go
        intro gL capL wL HL HbL HgL HwL
        go_wp2_with fail
        go_roundw
        case rel => exact ⟨k + 1, by omega, by go_num, by rw [HX.out]; exact HL.out, (bt Hbw.out HgB.out.1).trans HbL.out⟩
        case measure => simp [intOf]; omega
      · have HX := Lib.hid (Hon.out rfl)
        go_wp2_with fail
        go_roundw
        case rel => exact ⟨k + 1, by omega, by go_num, by rw [HX.out]; exact Hu.out, Hbw.out⟩
        case measure => simp [intOf]; omega
    · have d0 : decide ((k : Int) < n) = false := by simpa using hlt
      rw [List.take_of_length_le (by rw [Hn.out]; omega)] at Hu
      obtain ⟨A', c', rfl, -⟩ := Hu.out.read
      go_wp2_with fail
      go_ret
      exact Hu.out.retCP Hbw.out


end Go.Proofs.YtpmbpklbiocclaaGreat

/-
  A device that is well; how many blocks there are. Plain; no program is named here.
-/
namespace Go.Proofs.YtpmbpklbiocclaaGreat

theorem DC.flush_blen (x : DC) (no : Int) : (x.flush no).base.length = x.base.length := by
  unfold DC.flush
  split
  · rfl
  · split
    · rfl
    · show (x.base.set _ _).length = _
      rw [List.length_set]
theorem DC.uptoGo_blen : ∀ n (x : DC) (id : Int), (DC.uptoGo n x id).1.base.length = x.base.length := by
  intro n
  induction n with
  | zero => intro x id; rfl
  | succ n ih =>
    intro x id
    unfold DC.uptoGo
    split
    · rfl
    · split
      · split
        · rw [ih, DC.flush_blen]
        · exact DC.flush_blen _ _
      · rfl
theorem DC.go_blen (x : DC) (s : StC) : (x.go s).1.base.length = x.base.length := by
  unfold DC.go
  split
  · show (x.put s).base.length = _
    unfold DC.put
    split <;> rfl
  · split
    · exact DC.flush_blen _ _
    · split
      · exact DC.uptoGo_blen _ _ _
      · split
        · exact DC.uptoGo_blen _ _ _
        · split
          · rfl
          · split <;> rfl
structure Well (x : DC) : Prop where
  off : x.off = false
  fuse : x.fuse = -1
  len : x.base.length = 16
theorem Well.new : Well (DC.new 16) := ⟨rfl, rfl, List.length_replicate⟩
theorem Well.put {x : DC} (h : Well x) (s : StC) : Well (x.put s) := by
  unfold DC.put
  split
  · exact ⟨h.off, h.fuse, h.len⟩
  · exact h
theorem Well.flush {x : DC} (h : Well x) (no : Int) : Well (x.flush no) := by
  unfold DC.flush
  split
  · exact h
  · have hs : x.stuck = false := by unfold DC.stuck; rw [h.off, h.fuse]; rfl
    rw [hs]
    refine ⟨h.off, ?_, ?_⟩
    · show (if 0 < x.fuse then x.fuse - 1 else x.fuse) = -1
      rw [h.fuse]; rfl
    · show (x.base.set _ _).length = 16
      rw [List.length_set]; exact h.len
theorem Well.uptoGo : ∀ n {x : DC}, Well x → ∀ id, Well (DC.uptoGo n x id).1 := by
  intro n
  induction n with
  | zero => intro x h id; exact h
  | succ n ih =>
    intro x h id
    unfold DC.uptoGo
    split
    · exact h
    · split
      · split
        · exact ih (h.flush _) id
        · exact h.flush _
      · exact h
theorem Well.go {x : DC} (h : Well x) (s : StC) (h4 : s.do_ ≠ 4) : Well (x.go s).1 := by
  unfold DC.go
  by_cases h0 : s.do_ = 0
  · rw [if_pos h0]; exact h.put s
  · rw [if_neg h0]
    by_cases h1 : s.do_ = 1
    · rw [if_pos h1]; exact h.flush _
    · rw [if_neg h1]
      by_cases h2 : s.do_ = 2
      · rw [if_pos h2]; exact Well.uptoGo _ h _
      · rw [if_neg h2]
        by_cases h3 : s.do_ = 3
        · rw [if_pos h3]; exact Well.uptoGo _ h _
        · rw [if_neg h3, if_neg h4]
          by_cases h5 : s.do_ = 5
          · rw [if_pos h5]; exact ⟨rfl, rfl, h.len⟩
          · rw [if_neg h5]; exact h
theorem Well.knE {x : DC} (h : x.off = false) (hk : x.Ok) (hl : x.base.length = 16) {j : Int} (h0 : 0 ≤ j) (h1 : j < 16) : x.knownE j = 0 := by
  unfold DC.knownE
  have hh : x.has j = true := DC.has_iff.2 ⟨h0, by rw [hk.kl, hl]; exact h1⟩
  rw [h, hh]
  cases x.kn j <;> rfl

end Go.Proofs.YtpmbpklbiocclaaGreat

/-
  Steps and rounds over a cache: what is left, how deep it is, what is seen. Plain; no program is named here.
-/
namespace Go.Proofs.YtpmbpklbiocclaaGreat

def DC.roundGo : DC → List Int → DC × Int
  | x, [] => (x, 0)
  | x, b :: r => if x.flushE b = 0 then DC.roundGo (x.flush b) r else (x.flush b, x.flushE b)
def DC.round (x : DC) : DC × Int := x.roundGo (blocksC x.list)
theorem Well.stuck {x : DC} (h : Well x) : x.stuck = false := by unfold DC.stuck; rw [h.off, h.fuse]; rfl
theorem Well.flushE {x : DC} (h : Well x) (no : Int) : x.flushE no = 0 := by
  unfold DC.flushE
  rw [h.stuck]
  split <;> rfl
theorem Well.left {x : DC} (h : Well x) (no : Int) : (x.flush no).list = leftC x.list no := by
  unfold DC.flush
  split
  · rename_i hr
    unfold leftC withoutC
    rw [hr]
    exact (List.filter_eq_self.2 (fun _ _ => rfl)).symm
  · rw [h.stuck]
    rfl
theorem Well.roundGo : ∀ (r : List Int) {x : DC}, Well x → Well (x.roundGo r).1 ∧ (x.roundGo r).2 = 0 ∧ (x.roundGo r).1.list = afterC x.list r := by
  intro r
  induction r with
  | nil => intro x h; exact ⟨h, rfl, rfl⟩
  | cons b r ih =>
    intro x h
    unfold DC.roundGo
    rw [if_pos (h.flushE b)]
    obtain ⟨h1, h2, h3⟩ := ih (h.flush b)
    exact ⟨h1, h2, by rw [h3, h.left b]; rfl⟩
theorem Well.round {x : DC} (h : Well x) : Well x.round.1 ∧ x.round.2 = 0 ∧ x.round.1.list = roundC x.list := Well.roundGo _ h
theorem Well.deep {x : DC} (h : Well x) (hk : x.Ok) : deepC x.round.1.list ≤ deepC x.list - 1 := by
  rw [h.round.2.2]
  exact deepC_round hk.may
theorem DC.deep_zero {x : DC} (hk : x.Ok) (h : deepC x.list = 0) : x.list = [] := deepC_zero hk.may h
theorem DC.flush_wrote (x : DC) (no : Int) : (x.flush no).wrote ≤ x.wrote + 1 := by
  unfold DC.flush
  split
  · exact Nat.le_succ _
  · split
    · exact Nat.le_succ _
    · exact Nat.le_refl _
def DC.view (x : DC) (b : Int) : List UInt8 := viewC (x.bd b) x.list b
def DC.step (x : DC) (at_ : Nat → Nat) : DC × Int × Int :=
  if blocksC x.list = [] then (x, -1, 0) else (x.flush ((blocksC x.list).getD (at_ (blocksC x.list).length) 0), (blocksC x.list).getD (at_ (blocksC x.list).length) 0, x.flushE ((blocksC x.list).getD (at_ (blocksC x.list).length) 0))
theorem Well.step {x : DC} (h : Well x) (a : Nat → Nat) : Well (x.step a).1 ∧ (x.step a).2.2 = 0 := by
  unfold DC.step
  split
  · exact ⟨h, rfl⟩
  · exact ⟨h.flush _, h.flushE _⟩
theorem DC.step_wrote (x : DC) (a : Nat → Nat) : (x.step a).1.wrote ≤ x.wrote + 1 := by
  unfold DC.step
  split
  · exact Nat.le_succ _
  · exact DC.flush_wrote _ _
theorem DC.step_hist {x : DC} {H : List Cg} (h : x.Hist H) (hk : x.Ok) (a : Nat → Nat) : (x.step a).1.Hist H ∧ (x.step a).1.Ok := by
  unfold DC.step
  split
  · exact ⟨h, hk⟩
  · exact ⟨DC.flush_hist h hk _, DC.flush_ok hk _⟩
def DC.rounds : Nat → DC → Nat → DC × Nat × Int
  | 0, x, n => (x, n, 0)
  | m + 1, x, n => if x.list = [] then (x, n, 0) else if x.round.2 = 0 then DC.rounds m x.round.1 (n + 1) else (x.round.1, n, x.round.2)

end Go.Proofs.YtpmbpklbiocclaaGreat

/-
  Rounding keeps the order: products, and whole parts of them. Plain arithmetic; no program is named here.
-/
namespace Go.Proofs.YtpmbpklbiocclaaGreat
open Ieee

def rnd (n d : Nat) : Nat := n / 2 ^ d + (decide (2 ^ d < 2 * (n % 2 ^ d)) || (2 ^ d == 2 * (n % 2 ^ d) && n / 2 ^ d % 2 == 1)).toNat

theorem cut_rnd (s : Bool) (n d : Nat) : Toward.even.cut s n d = rnd n d := by
  unfold Toward.cut rnd
  rw [Nat.one_shiftLeft]
  by_cases h : d ≤ n.log2 + 2
  · rw [Nat.min_eq_left h]
  · rw [Nat.min_eq_right (by omega)]
    have h1 : n < 2 ^ (n.log2 + 1) := Nat.lt_log2_self
    have h2 : 2 ^ (n.log2 + 2) ≤ 2 ^ d := Nat.pow_le_pow_right (by omega) (by omega)
    have h3 : 2 ^ (n.log2 + 2) = 2 * 2 ^ (n.log2 + 1) := by rw [Nat.pow_succ, Nat.mul_comm]
    have c1 : n / 2 ^ (n.log2 + 2) = 0 := Nat.div_eq_of_lt (by omega)
    have c2 : n / 2 ^ d = 0 := Nat.div_eq_of_lt (by omega)
    have c3 : n % 2 ^ (n.log2 + 2) = n := Nat.mod_eq_of_lt (by omega)
    have c4 : n % 2 ^ d = n := Nat.mod_eq_of_lt (by omega)
    simp only [c1, c2, c3, c4]
    have d1 : decide (2 ^ (n.log2 + 2) < 2 * n) = false := by simp; omega
    have d2 : decide (2 ^ d < 2 * n) = false := by simp; omega
    rw [d1, d2]
    simp
theorem rnd_low (n d : Nat) : n / 2 ^ d ≤ rnd n d := by unfold rnd; omega
theorem rnd_high (n d : Nat) : rnd n d ≤ n / 2 ^ d + 1 := by
  unfold rnd
  have := Bool.toNat_le (decide (2 ^ d < 2 * (n % 2 ^ d)) || (2 ^ d == 2 * (n % 2 ^ d) && n / 2 ^ d % 2 == 1))
  omega
theorem rnd_mono {n m : Nat} (d : Nat) (h : n ≤ m) : rnd n d ≤ rnd m d := by
  have hq := Nat.div_le_div_right (c := 2 ^ d) h
  rcases Nat.lt_or_eq_of_le hq with hq | hq
  · have h1 := rnd_high n d
    have h2 := rnd_low m d
    omega
  · have hn := Nat.div_add_mod n (2 ^ d)
    have hm := Nat.div_add_mod m (2 ^ d)
    rw [hq] at hn
    have hr : n % 2 ^ d ≤ m % 2 ^ d := by omega
    unfold rnd
    rw [hq]
    generalize n % 2 ^ d = r at *
    generalize m % 2 ^ d = s at *
    generalize 2 ^ d = g at *
    generalize m / g = q at *
    refine Nat.add_le_add_left ?_ q
    by_cases h1 : g < 2 * r
    · rw [decide_eq_true h1, decide_eq_true (show g < 2 * s by omega)]
      simp
    · rw [decide_eq_false h1, Bool.false_or]
      by_cases h2 : g = 2 * r
      · by_cases h3 : g < 2 * s
        · rw [decide_eq_true h3, Bool.true_or]
          exact Bool.toNat_le _
        · have : r = s := by omega
          subst this
          rw [decide_eq_false h3]
          simp
      · have h4 : (g == 2 * r) = false := by simpa using h2
        rw [h4]
        simp
theorem rnd_scale (n d k : Nat) : rnd (n * 2 ^ k) (d + k) = rnd n d := by
  unfold rnd
  have h1 : n * 2 ^ k / 2 ^ (d + k) = n / 2 ^ d := by rw [Nat.pow_add, Nat.mul_div_mul_right _ _ (Nat.two_pow_pos k)]
  have h2 : n * 2 ^ k % 2 ^ (d + k) = n % 2 ^ d * 2 ^ k := by rw [Nat.pow_add, Nat.mul_mod_mul_right]
  rw [h1, h2, Nat.pow_add]
  have hp := Nat.two_pow_pos k
  have h3 : 2 * (n % 2 ^ d * 2 ^ k) = 2 * (n % 2 ^ d) * 2 ^ k := by rw [Nat.mul_assoc]
  rw [h3]
  have h4 : decide (2 ^ d * 2 ^ k < 2 * (n % 2 ^ d) * 2 ^ k) = decide (2 ^ d < 2 * (n % 2 ^ d)) := by
    rw [Bool.eq_iff_iff]
    simp only [decide_eq_true_eq]
    exact Nat.mul_lt_mul_right hp
  have h5 : (2 ^ d * 2 ^ k == 2 * (n % 2 ^ d) * 2 ^ k) = (2 ^ d == 2 * (n % 2 ^ d)) := by
    rw [Bool.eq_iff_iff]
    simp only [beq_iff_eq]
    exact ⟨fun h => Nat.eq_of_mul_eq_mul_right hp h, fun h => congrArg (· * 2 ^ k) h⟩
  rw [h4, h5]
theorem rnd_zero (n : Nat) : rnd n 0 = n := by
  unfold rnd
  rw [Nat.pow_zero, Nat.div_one, Nat.mod_one]
  rfl

def lastPR (m : Nat) (p : Int) : Int := max (p + (m.log2 : Int) - 52) (-1074)
def keptP (m : Nat) (p : Int) : Nat := rnd (m * 2 ^ (p - lastPR m p).toNat) (lastPR m p - p).toNat
theorem nearest_eq (s : Bool) (m : Nat) (p : Int) (h : m ≠ 0) : double.nearest s m p = double.word s (min ((lastPR m p + 1074).toNat * 4503599627370496 + keptP m p) 9218868437227405312) := by
  unfold Format.nearest
  rw [if_neg h, d_least, d_frac, d_inf, d_binade]
  simp only [cut_rnd, Nat.shiftLeft_eq]
  rfl
theorem nearest_scale (s : Bool) (m k : Nat) (p : Int) : double.nearest s (m * 2 ^ k) p = double.nearest s m (p + (k : Int)) := by
  rcases Nat.eq_zero_or_pos m with h0 | h0
  · rw [h0, Nat.zero_mul, nearest_zero, nearest_zero]
  · rw [nearest_eq s _ _ (Nat.mul_ne_zero (by omega) (Nat.ne_of_gt (Nat.two_pow_pos k))), nearest_eq s m _ (by omega)]
    have hl : lastPR (m * 2 ^ k) p = lastPR m (p + (k : Int)) := by
      unfold lastPR
      rw [log2_mul_pow m k (by omega)]
      congr 1
      omega
    have hk : keptP (m * 2 ^ k) p = keptP m (p + (k : Int)) := by
      unfold keptP
      rw [hl]
      generalize lastPR m (p + (k : Int)) = L
      rw [Nat.mul_assoc, ← Nat.pow_add]
      by_cases h1 : L ≤ p
      · rw [show (L - p).toNat = 0 by omega, show (L - (p + (k : Int))).toNat = 0 by omega, show k + (p - L).toNat = (p + (k : Int) - L).toNat by omega]
      · rw [show (p - L).toNat = 0 by omega, Nat.add_zero]
        by_cases h2 : L ≤ p + k
        · rw [show (L - (p + (k : Int))).toNat = 0 by omega, rnd_zero]
          obtain ⟨u, hu⟩ : ∃ u, (p + (k : Int) - L).toNat = u := ⟨_, rfl⟩
          obtain ⟨v, hv⟩ : ∃ v, (L - p).toNat = v := ⟨_, rfl⟩
          rw [hu, hv]
          have e : m * 2 ^ k = m * 2 ^ u * 2 ^ v := by rw [Nat.mul_assoc, ← Nat.pow_add, show u + v = k by omega]
          have h3 := rnd_scale (m * 2 ^ u) 0 v
          rw [Nat.zero_add, rnd_zero] at h3
          rw [e, h3]
        · rw [show (p + (k : Int) - L).toNat = 0 by omega, Nat.pow_zero, Nat.mul_one, show (L - p).toNat = (L - (p + (k : Int))).toNat + k by omega, rnd_scale]
    rw [hl, hk]
theorem nearest_mono (m n : Nat) (p : Int) (h : m ≤ n) : double.nearest false m p ≤ double.nearest false n p := by
  rcases Nat.eq_zero_or_pos m with h0 | h0
  · rw [h0, nearest_zero, d_word_pos]; exact Nat.zero_le _
  · rw [nearest_eq false m p (by omega), nearest_eq false n p (by omega), d_word_pos, d_word_pos]
    have hlog : m.log2 ≤ n.log2 := (Nat.le_log2 (by omega)).2 (Nat.le_trans (Nat.log2_self_le (by omega)) h)
    have key : (lastPR m p + 1074).toNat * 4503599627370496 + keptP m p ≤ (lastPR n p + 1074).toNat * 4503599627370496 + keptP n p := by
      by_cases hL : lastPR m p = lastPR n p
      · unfold keptP
        rw [hL]
        exact Nat.add_le_add_left (rnd_mono _ (Nat.mul_le_mul_right _ h)) _
      · have hlt : lastPR m p < lastPR n p := by unfold lastPR at *; omega
        have hn : lastPR n p = p + (n.log2 : Int) - 52 := by unfold lastPR at *; omega
        have hm1 : p + (m.log2 : Int) - 52 ≤ lastPR m p := by unfold lastPR; omega
        have hm2 : -1074 ≤ lastPR m p := by unfold lastPR; omega
        have k1 : keptP m p ≤ 9007199254740992 := by
          unfold keptP
          generalize lastPR m p = L at *
          have hml : m < 2 ^ (m.log2 + 1) := Nat.lt_log2_self
          have e53 : (9007199254740992 : Nat) = 2 ^ 53 := by decide
          by_cases h1 : L ≤ p
          · rw [show (L - p).toNat = 0 by omega, rnd_zero, e53]
            have h2 : m * 2 ^ (p - L).toNat ≤ 2 ^ (m.log2 + 1) * 2 ^ (p - L).toNat := Nat.mul_le_mul_right _ (by omega)
            rw [← Nat.pow_add] at h2
            exact Nat.le_trans h2 (Nat.pow_le_pow_right (by omega) (by omega))
          · rw [show (p - L).toNat = 0 by omega, Nat.pow_zero, Nat.mul_one]
            have h2 := rnd_high m (L - p).toNat
            have h3 : m / 2 ^ (L - p).toNat < 2 ^ 53 := by
              rw [Nat.div_lt_iff_lt_mul (Nat.two_pow_pos _), ← Nat.pow_add]
              exact Nat.lt_of_lt_of_le hml (Nat.pow_le_pow_right (by omega) (by omega))
            rw [← e53] at h3
            omega
        have k2 : 4503599627370496 ≤ keptP n p := by
          unfold keptP
          rw [hn]
          have hnl : 2 ^ n.log2 ≤ n := Nat.log2_self_le (by omega)
          rw [b_pow]
          by_cases h1 : n.log2 ≤ 52
          · rw [show (p + (n.log2 : Int) - 52 - p).toNat = 0 by omega, rnd_zero, show (p - (p + (n.log2 : Int) - 52)).toNat = 52 - n.log2 by omega]
            have h2 : 2 ^ n.log2 * 2 ^ (52 - n.log2) ≤ n * 2 ^ (52 - n.log2) := Nat.mul_le_mul_right _ hnl
            rw [← Nat.pow_add, show n.log2 + (52 - n.log2) = 52 by omega] at h2
            exact h2
          · rw [show (p + (n.log2 : Int) - 52 - p).toNat = n.log2 - 52 by omega, show (p - (p + (n.log2 : Int) - 52)).toNat = 0 by omega, Nat.pow_zero, Nat.mul_one]
            refine Nat.le_trans ?_ (rnd_low _ _)
            rw [Nat.le_div_iff_mul_le (Nat.two_pow_pos _), ← Nat.pow_add, show 52 + (n.log2 - 52) = n.log2 by omega]
            exact hnl
        have h5 : (lastPR m p + 1074).toNat + 1 ≤ (lastPR n p + 1074).toNat := by omega
        have h6 := Nat.mul_le_mul_right 4503599627370496 h5
        omega
    omega

def mulW (x y : Nat) : Nat := double.nearest false (vl x * vl y) (-2148)
theorem mul_val (x y : Nat) (hx : x < 9218868437227405312) (hy : y < 9218868437227405312) : floatBits .mul .f64 x y = some (mulW x y) := by
  have hs : floatBits .mul .f64 x y = ((double.read x).product (double.read y)).map double.write := by
    unfold floatBits Format.mul FloatKind.format
    simp only
  rw [hs, read_pos x hx, read_pos y hy]
  simp only [Datum.product, Option.map_some, Format.write]
  congr 1
  rw [show (false ^^ false) = false from rfl]
  unfold mulW vl
  generalize x / 4503599627370496 - 1 = a
  generalize y / 4503599627370496 - 1 = b
  have e : mg x * 2 ^ a * (mg y * 2 ^ b) = mg x * mg y * 2 ^ (a + b) := by
    rw [Nat.pow_add, Nat.mul_assoc, Nat.mul_assoc, Nat.mul_left_comm (2 ^ a)]
  rw [e, nearest_scale]
  congr 1
  omega
theorem vl_le {x y : Nat} (h : x ≤ y) : vl x ≤ vl y := by
  rcases Nat.lt_or_eq_of_le h with h | h
  · exact Nat.le_of_lt (vl_lt h)
  · rw [h]; exact Nat.le_refl _
theorem mulW_mono {x x' y y' : Nat} (hx : x ≤ x') (hy : y ≤ y') : mulW x y ≤ mulW x' y' := nearest_mono _ _ _ (Nat.mul_le_mul (vl_le hx) (vl_le hy))

def wholeW (x : Nat) : Nat := vl x / 2 ^ 1074
theorem wholeW_mono {x y : Nat} (h : x ≤ y) : wholeW x ≤ wholeW y := Nat.div_le_div_right (vl_le h)
theorem cut_zero (s : Bool) (n d : Nat) : Toward.zero.cut s n d = n / 2 ^ d := by
  unfold Toward.cut
  rw [Nat.one_shiftLeft]
  simp only [Bool.toNat_false, Nat.add_zero]
  by_cases h : d ≤ n.log2 + 2
  · rw [Nat.min_eq_left h]
  · rw [Nat.min_eq_right (by omega)]
    have h1 : n < 2 ^ (n.log2 + 1) := Nat.lt_log2_self
    have h2 : 2 ^ (n.log2 + 2) ≤ 2 ^ d := Nat.pow_le_pow_right (by omega) (by omega)
    have h3 : 2 ^ (n.log2 + 2) = 2 * 2 ^ (n.log2 + 1) := by rw [Nat.pow_succ, Nat.mul_comm]
    rw [Nat.div_eq_of_lt (by omega), Nat.div_eq_of_lt (by omega)]
theorem toInt_val (x : Nat) (hx : x < 9218868437227405312) : (FloatKind.f64.decode x).toInt .zero = some ((wholeW x : Nat) : Int) := by
  show (double.read x).toInt .zero = _
  rw [read_pos x hx]
  unfold Datum.toInt
  simp only [Datum.integral, cut_zero, Nat.shiftLeft_eq, signed_eq, Nat.pow_zero, Nat.mul_one, Bool.false_eq_true, if_false]
  congr 2
  unfold wholeW vl
  generalize x / 4503599627370496 - 1 = a
  obtain ⟨T, hT⟩ : ∃ T : Nat, T = 1074 := ⟨_, rfl⟩
  have e1 : (-1074 + (a : Int)).toNat = a - T := by omega
  have e2 : (-(-1074 + (a : Int))).toNat = T - a := by omega
  rw [e1, e2, ← hT]
  clear hT e1 e2
  by_cases h : T ≤ a
  · rw [show T - a = 0 by omega, Nat.pow_zero, Nat.div_one]
    rw [show mg x * 2 ^ a = mg x * 2 ^ (a - T) * 2 ^ T by rw [Nat.mul_assoc, ← Nat.pow_add, Nat.sub_add_cancel h], Nat.mul_div_cancel _ (Nat.two_pow_pos T)]
  · rw [show a - T = 0 by omega, Nat.pow_zero, Nat.mul_one]
    have h2 : 2 ^ T = 2 ^ (T - a) * 2 ^ a := by rw [← Nat.pow_add, Nat.sub_add_cancel (by omega)]
    rw [h2, Nat.mul_div_mul_right _ _ (Nat.two_pow_pos a)]

theorem ofInt_nearest (n : Nat) : floatOfInt .f64 (n : Int) = double.nearest false n 0 := by
  unfold floatOfInt FloatKind.nearest FloatKind.encode FloatKind.format Format.write
  simp only
  rw [show decide ((n : Int) < 0) = false by simp, Int.natAbs_natCast]
theorem ofInt_mono {n m : Nat} (h : n ≤ m) : floatOfInt .f64 (n : Int) ≤ floatOfInt .f64 (m : Int) := by
  rw [ofInt_nearest, ofInt_nearest]; exact nearest_mono _ _ _ h
theorem ofInt_top {n : Nat} (h : n < 9223372036854775808) : floatOfInt .f64 (n : Int) ≤ 4890909195324358656 := by
  have h1 := ofInt_mono (show n ≤ 9223372036854775807 by omega)
  have h2 : floatOfInt .f64 ((9223372036854775807 : Nat) : Int) = 4890909195324358656 := by decide +kernel
  omega
theorem mul_below {w n : Nat} (hw : w < 4607182418800017408) (hn : n < 9223372036854775808) : mulW w (floatOfInt .f64 (n : Int)) ≤ 4890909195324358655 ∧ wholeW (mulW w (floatOfInt .f64 (n : Int))) ≤ 9223372036854774784 := by
  have h1 := mulW_mono (show w ≤ 4607182418800017407 by omega) (ofInt_top hn)
  have h2 : mulW 4607182418800017407 4890909195324358656 = 4890909195324358655 := by decide +kernel
  rw [h2] at h1
  have h3 := wholeW_mono h1
  have h4 : wholeW 4890909195324358655 = 9223372036854774784 := by decide +kernel
  exact ⟨h1, by omega⟩

end Go.Proofs.YtpmbpklbiocclaaGreat
