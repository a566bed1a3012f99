/-
  Texts of this claim joined: Ca3, Ca4, Ca5.
-/
import Derived.Test.YtpmbpklbiocclaaGreatGrAK
import Derived.Test.YtpmbpklbiocclaaGreatDsk6
import Derived.Laws.Tables
import Derived.Great.FillDense

/-
  The program's: known (a block is read from the device the first time), Get, New.
-/
namespace Go.Proofs.YtpmbpklbiocclaaGreat
open Go.RowKit

theorem fill_part (place : Nat → Option (Nat × Nat)) (cs : List Value) (i off : Nat) (l : List Value) (rest : List (Nat × Value)) (hp : place i = some (off, l.length)) (hb : off + l.length ≤ cs.length) (ds : List Value) (hd : cs.take off ++ l ++ cs.drop (off + l.length) = ds) :
    Instr.fill place cs.toArray ((i, .agg l.toArray) :: rest) = Instr.fill place ds.toArray rest := by
  subst hd
  have hc : (Value.agg l.toArray).cells = l.toArray := rfl
  have hs : l.toArray.size = l.length := by simp
  rw [Instr.fill, hp]
  simp only [hc, hs]
  rw [if_neg (by simp; omega)]
  congr 1
  rw [← Array.foldl_toList, Array.toList_zipIdx]
  obtain ⟨h1, h2⟩ := Go.Great.foldl_set off l 0 cs.toArray
  apply Array.ext_getElem?
  intro k
  have h3 := h2 k
  simp only [Nat.add_zero, List.size_toArray] at h3
  refine h3.trans ?_
  simp only [List.getElem?_toArray]
  by_cases hk1 : off ≤ k
  · by_cases hk2 : k < off + l.length
    · rw [if_pos ⟨hk1, hk2, by omega⟩, List.append_assoc, List.getElem?_append_right (by rw [List.length_take]; omega), List.length_take, Nat.min_eq_left (by omega), List.getElem?_append_left (by omega)]
    · rw [if_neg (fun h => hk2 h.2.1), List.append_assoc, List.getElem?_append_right (by rw [List.length_take]; omega), List.length_take, Nat.min_eq_left (by omega), List.getElem?_append_right (by omega), List.getElem?_drop]
      congr 1; omega
  · rw [if_neg (fun h => hk1 h.1), List.append_assoc, List.getElem?_append_left (by rw [List.length_take]; omega), List.getElem?_take_of_lt (by omega)]
def zlat : List Int := List.replicate 256 0
theorem zlat_len : zlat.length = 256 := List.length_replicate
theorem Tryz.kbZero : (Tryz.prog.info? 108).map (·.zero) = some (some (.agg (kc (zeros 256) (zeros 256) 0 (.slice none 0 0) zlat).toArray)) := by kernel_rfl
theorem Tryz.kbPlaces : (match Tryz.prog.underlying 108 with | some (.struct fs) => fs.toList.mapM (fun f => (Tryz.prog.info? f.type).map fun i => (f.offset, i.size)) | _ => none) = some [(0, 256), (256, 256), (512, 1), (513, 1), (514, 256)] := by kernel_rfl
theorem Tryz.builtK (b v : List UInt8) (hb : b.length = 256) (hv : v.length = 256) : Tryz.prog.built 108 [(0, .agg (bcells b)), (1, .agg (bcells v))] = some (kc b v 0 (.slice none 0 0) zlat).toArray := by
  obtain ⟨it, h1, h2⟩ := Option.map_eq_some_iff.1 Tryz.kbZero
  have h3 := Tryz.kbPlaces
  have hu := Tryz.underlying108
  have l1 : (bvl b).length = 256 := by rw [bvl_len, hb]
  have l2 : (bvl v).length = 256 := by rw [bvl_len, hv]
  have e1 := kc_len (base := zeros 256) (view := zeros 256) (d := 0) (f := .slice none 0 0) (zeros_len 256) (zeros_len 256) zlat_len
  have e2 := kc_len (base := b) (view := zeros 256) (d := 0) (f := .slice none 0 0) hb (zeros_len 256) zlat_len
  have key : ∀ place : Nat → Option (Nat × Nat), place 0 = some (0, 256) → place 1 = some (256, 256) → Instr.fill place (kc (zeros 256) (zeros 256) 0 (.slice none 0 0) zlat).toArray [(0, .agg (bcells b)), (1, .agg (bcells v))] = some (kc b v 0 (.slice none 0 0) zlat).toArray := fun place p0 p1 => by
    rw [bcells_bvl, bcells_bvl, fill_part place _ 0 0 (bvl b) _ (by rw [l1]; exact p0) (by omega) _ (kc_toBase (zeros_len 256) b hb), fill_part place _ 1 256 (bvl v) _ (by rw [l2]; exact p1) (by omega) _ (kc_toView hb (zeros_len 256) v hv), Instr.fill]
  generalize (kc b v 0 (.slice none 0 0) zlat).toArray = R at key ⊢
  generalize [(0, Value.agg (bcells b)), (1, Value.agg (bcells v))] = ps at key ⊢
  have hzc : (Value.agg (kc (zeros 256) (zeros 256) 0 (.slice none 0 0) zlat).toArray).cells = (kc (zeros 256) (zeros 256) 0 (.slice none 0 0) zlat).toArray := rfl
  rw [← hzc] at key
  generalize Value.agg (kc (zeros 256) (zeros 256) 0 (.slice none 0 0) zlat).toArray = Z at h2 key
  clear hzc e1 e2 l1 l2
  unfold Program.built
  simp only [hu] at h3 ⊢
  simp only [h1, h2, h3]
  exact key _ rfl rfl
section
variable {ops : Array Oper} {rest : List Oper} {o : Oper} {a : Act} {w : World} {Q : Exit → Act → World → Prop}
theorem wpList_build_kb (hgd : Region.wanted o (yielded ops a.tmps) = true) (x y : Operand) (ho : o.op = .build 108 #[(0, x), (1, y)]) (b v : List UInt8) (hb : b.length = 256) (hv : v.length = 256) (hx : a.eval x = .agg (bcells b)) (hy : a.eval y = .agg (bcells v))
    (h : wpList Tryz.prog ops Q rest (a.put o.dst (.agg (kc b v 0 (.slice none 0 0) zlat).toArray)) w) : wpList Tryz.prog ops Q (o :: rest) a w := by
  refine wpList_wanted hgd fun K hK => ?_
  have hr : (Instr.build 108 #[(0, .agg (bcells b)), (1, .agg (bcells v))]).run Tryz.prog w = .ok (.agg (kc b v 0 (.slice none 0 0) zlat).toArray) w := run_build w _ _ _ (Tryz.builtK b v hb hv)
  unfold Oper.wp execOp
  simp only [ho, Sem.run_bind, List.map_toArray, List.map_cons, List.map_nil, hx, hy, hr, Result.andThen_ok]
  exact hK _ _ h
end

def giveR (ro : Nat → Option Rl) (g : Nat) (r : Rl) : Nat → Option Rl := fun k => if k = g then some r else ro k
theorem giveR_same (ro : Nat → Option Rl) (g : Nat) (r : Rl) : giveR ro g r g = some r := if_pos rfl
theorem giveR_other (ro : Nat → Option Rl) {g k : Nat} (r : Rl) (h : k ≠ g) : giveR ro g r k = ro k := if_neg h
section
variable {w w' : World} {ro : Nat → Option Rl} {A : CA} {S : CS}
def CS.know (S : CS) (k : Int) (b : List UInt8) : CS :=
  { S with kn := updF S.kn k true, base := updF S.base k b, view := updF S.view k b, dirty := updF S.dirty k 0, free := updF S.free k [], lat := updF S.lat k zlat }
def CA.know (A : CA) (k : Int) (g : Nat) : CA := { A with nb := A.nb + 1, ka := updF A.ka k g, fv := updF A.fv k (.slice none 0 0) }
theorem HP.know {b : List UInt8} (h : HP w ro A S) {k : Int} {g : Nat} (hg : Blk w g 108 (kc b b 0 (.slice none 0 0) zlat).toArray) (hn : ro g = none) (hb : b.length = 256) (hm : MapZ (.pointer none) w' Tryz.prog 3 A.mb (A.nb + 1) (pmap (updF S.kn k true) (updF A.ka k g))) (ho : w.grownBy w' (some A.mb)) :
    HP w' (giveR ro g (.blk k)) (A.know k g) (S.know k b) := by
  have hmb := (h.asn .mb).1
  have hgm : g ≠ A.mb := fun e => by rw [e, hmb] at hn; cases hn
  have hro : ∀ i r, ro i = some r → giveR ro g (.blk k) i = some r := fun i r hi => (giveR_other ro _ (fun e => by rw [e, hn] at hi; cases hi)).trans hi
  refine ⟨fun r => ?_, fun i r hi => ?_⟩
  · have hfr : r ≠ .mb → Asn w' (giveR ro g (.blk k)) A S r := fun hr => (h.asn r).frame fun i hi => ⟨ho.block i (h.lt i r hi) (fun e => by
      injection e with e
      rw [e, hmb] at hi
      injection hi with hi
      exact hr hi.symm), hro i r hi⟩
    cases r with
    | mb => exact ⟨hro _ _ hmb, hm⟩
    | blk j =>
      by_cases hj : j = k
      · subst hj
        intro _
        have e := (ho.block g hg.lt (fun e => hgm (by injection e)))
        simp only [CS.know, CA.know, updF_same]
        exact ⟨giveR_same _ _ _, hg.same e, hb, hb, zlat_len⟩
      · intro hq
        simp only [CS.know, CA.know, updF_other _ _ hj] at hq ⊢
        exact hfr (by intro e; cases e) hq
    | fr j =>
      by_cases hj : j = k
      · subst hj
        intro _
        simp only [CS.know, CA.know, updF_same]
        exact ⟨fun i hi => by simp [Value.ownBlock] at hi, OwnC.nil_ _ _ _⟩
      · intro hq
        simp only [CS.know, CA.know, updF_other _ _ hj] at hq ⊢
        exact hfr (by intro e; cases e) hq
    | ca => exact hfr (by intro e; cases e)
    | ml => exact hfr (by intro e; cases e)
    | dv => exact hfr (by intro e; cases e)
    | chg i => exact hfr (by intro e; cases e)
    | bh i => exact hfr (by intro e; cases e)
    | dat i => exact hfr (by intro e; cases e)
  · by_cases e : i = g
    · subst e; have := hg.lt; have := ho.size; omega
    · rw [giveR_other _ _ e] at hi; have := h.lt i r hi; have := ho.size; omega
end

section
variable {w w' : World} {ro : Nat → Option Rl} {A : CA} {S : CS}
theorem Turn.tr (h : Turn w w' A.dv A.dv) (k : HP w ro A S) : Tr ro ro w w' :=
  ⟨h.os, h.tape, h.output, h.size, fun g hg hn => ⟨hn, h.block g hg (fun e => by rw [e, (k.asn .dv).1] at hn; cases hn) (fun e => by rw [e, (k.asn .dv).1] at hn; cases hn)⟩⟩
def RetK (w : World) (ro : Nat → Option Rl) (A : CA) (S : CS) (no : Int) (e : Ending) (w' : World) : Prop :=
  (S.kn no = true ∧ e = .returned (.tuple #[ptr (A.ka no), .int .i64 0]) ∧ w' = w) ∨
  (S.kn no = false ∧ S.dev.readE no ≠ 0 ∧ e = .returned (.tuple #[.pointer none, .int .i64 (S.dev.readE no)]) ∧ HP w' ro A { S with dev := S.dev.read no } ∧ Tr ro ro w w') ∨
  (S.kn no = false ∧ S.dev.readE no = 0 ∧ ∃ ro' g, w.heap.size ≤ g ∧ e = .returned (.tuple #[ptr g, .int .i64 0]) ∧ HP w' ro' (A.know no g) (({ S with dev := S.dev.read no } : CS).know no (S.dev.readB no)) ∧ Tr ro ro' w w')
set_option maxRecDepth 100000 in
set_option maxHeartbeats 4000000 in
theorem known_any (h : HP w ro A S) (no : Int) (hlo : -9223372036854775808 ≤ no) (hhi : no < 9223372036854775808) (hrd : S.dev.rd < 4611686018427387904) (hnb : A.nb < 1000000) :
    Calls Tryz.prog 43 #[ptr A.ca, .int .i64 no] w (RetK w ro A S no) := by
  have c0 : w.cell? ⟨A.ca, 0, none⟩ = some (ptr A.dv) := h.cc.cell 0
  have c1 : w.cell? ⟨A.ca, 1, none⟩ = some (.map (some A.mb)) := h.cc.cell 1
  have HM := Lib.hid h.mbw
  have Hw := Lib.hid (wf_int hlo hhi)
  have H := Lib.hid h
  clear h
  cases hk : S.kn no
  · obtain ⟨m1, m2⟩ := pmap_out (a := A.ka) hk
    have HK := Lib.hid hk
    clear hk
    obtain ⟨E, hE⟩ : ∃ E, S.dev.readE no = E := ⟨_, rfl⟩
    have HE := Lib.hid hE
    have HD := Lib.hid H.out.dvw
    have hDl := HD.out.lt
    unfold ptr at c0 ⊢
    clear hE
    go_enter Tryz.func43, Tryz.ntmps43
    go_wp2_with (refine wpList_lookZ_ok rfl _ _ _ rfl _ _ Tryz.underlying3 Tryz.underlying96 Tryz.zeroBlk rfl HM.out no rfl Hw.out _ m1 _ m2 ?_)
    refine (read_any A.dv ⟨A.dt, 0, none⟩ S.dev.bl.length no S.dev _ HD.out.ds HD.out.bks (RK.of_blk HD.out.bks HD.out.blk) (Nat.le_refl _) (by have := HD.out.len; unfold maxLen; omega) HD.out.ne.symm hDl.2 hrd).mono ?_; rintro e w1 ⟨rfl, ht, hds⟩
    have HT := Lib.hid ht
    have HS1 := Lib.hid (H.out.setD (S.dev.read no) (ht.one A.dt) ⟨by rw [Dev.read_bl]; exact hds, by rw [Dev.read_bl]; exact HD.out.bks, by rw [Dev.read_bl]; exact HD.out.blk.turn ht HD.out.ne.symm HD.out.ne.symm, HD.out.ne, by rw [Dev.read_bl]; exact HD.out.len, by have := HD.out.fuse; unfold Dev.read; split <;> (try split) <;> exact this⟩)
    clear ht hds
    have HC1 := Lib.hid HS1.out.cc
    have HA := Lib.hid Tryz.blockZero
    go_wp2_with (refine wpList_alloc_row rfl _ rfl _ Tryz.blockZero ?_)
    apply Stop.go; intro w2 Hg2 Hb2
    go_wp2_with (refine wpList_store_arr rfl _ _ _ rfl _ (bcells (S.dev.readB no)) rfl rfl _ _ Hb2.out (Tryz.blockFits (Dev.readB_len HD.out.bks no)) (by rw [bcells_size, bcells_size, Dev.readB_len HD.out.bks no, zeros_len]) (oneCell_bcells _) ?_)
    apply Stop.go; intro w3 Ho3 Hb3
    have HB3 := Lib.hid (bonly Hg2.out.1 Ho3.out (Nat.le_refl _))
    have HS3 := Lib.hid (HS1.out.ext HB3.out)
    have HT3 := Lib.hid ((Tr.of_below ro (Below.refl w.heap.size w)).trans (Tr.trans (HT.out.tr H.out) (Tr.of_below ro HB3.out)))
    by_cases hE0 : S.dev.readE no = 0
    · rw [hE0]
      have HE0 := Lib.hid hE0
      clear hE0
      have c1 : w3.cell? ⟨A.ca, 1, none⟩ = some (.map (some A.mb)) := HS3.out.cc.cell 1
      have hlen := Dev.readB_len HD.out.bks no
      go_wp2_with (first | refine wpList_load_blk rfl _ _ rfl _ rfl _ _ Hb3.out _ Tryz.underlying50 rfl (Tryz.blockFits hlen) ?_ | refine wpList_build_kb rfl _ _ rfl _ _ hlen hlen rfl rfl ?_ | refine wpList_box_row rfl _ _ rfl _ rfl ?_)
      apply Stop.go; intro w4 Hg4 Hb4
      have HS4 := Lib.hid (HS3.out.ext Hg4.out.1)
      have c1 : w4.cell? ⟨A.ca, 1, none⟩ = some (.map (some A.mb)) := HS4.out.cc.cell 1
      go_wp2_with (refine wpList_mapZ_store rfl _ _ _ _ rfl _ _ Tryz.underlying3 Tryz.underlying96 rfl HS4.out.mbw (by unfold maxLen; omega) no rfl Hw.out _ rfl ?_)
      apply Stop.go; intro w5 Hm5 Hg5
      have hnone : ro w3.heap.size = none := HS3.out.none_ge (Nat.le_refl _)
      have hle : w.heap.size ≤ w3.heap.size := HT3.out.size
      have HS5 := Lib.hid (HS4.out.know (b := S.dev.readB no) Hb4.out hnone hlen (by rw [← pmap_upd]; exact Hm5.out) Hg5.out)
      have HT5 := Lib.hid (((HT3.out.bel Hg4.out.1).trans (Tr.of_grown Hg5.out (fun g e => by injection e with e; rw [← e, (HS4.out.asn .mb).1]; simp))).own (ro'' := giveR ro w3.heap.size (.blk no)) (fun g hg => giveR_other _ _ (by omega)))
      go_wp2_with fail
      go_ret2
      exact Or.inr (Or.inr ⟨HK.out, HE0.out, _, _, hle, rfl, HS5.out, HT5.out⟩)
    · have d0 : (S.dev.readE no != 0) = true := by simpa using hE0
      have HE0 := Lib.hid hE0
      clear hE0
      go_wp2_with fail
      go_ret2
      exact Or.inr (Or.inl ⟨HK.out, HE0.out, rfl, HS3.out, HT3.out⟩)
  · obtain ⟨m1, m2⟩ := pmap_in (a := A.ka) hk
    have HK := Lib.hid hk
    clear hk
    unfold ptr at m1 c0 ⊢
    go_enter Tryz.func43, Tryz.ntmps43
    go_wp2_with (refine wpList_lookZ_ok rfl _ _ _ rfl _ _ Tryz.underlying3 Tryz.underlying96 Tryz.zeroBlk rfl HM.out no rfl Hw.out _ m1 _ m2 ?_)
    go_ret2
    exact Or.inl ⟨HK.out, rfl, rfl⟩
end

section
variable {w : World} {ro : Nat → Option Rl} {A : CA} {S : CS}
def CS.seen (S : CS) (no : Int) : List UInt8 := if S.kn no then S.view no else S.dev.readB no
def RetG (w : World) (ro : Nat → Option Rl) (A : CA) (S : CS) (no : Int) (e : Ending) (w' : World) : Prop :=
  (S.kn no = true ∧ e = .returned (.tuple #[.agg (bcells (S.view no)), .int .i64 0]) ∧ HP w' ro A S ∧ Tr ro ro w w') ∨
  (S.kn no = false ∧ S.dev.readE no ≠ 0 ∧ e = .returned (.tuple #[.agg (bcells (zeros 256)), .int .i64 (S.dev.readE no)]) ∧ HP w' ro A { S with dev := S.dev.read no } ∧ Tr ro ro w w') ∨
  (S.kn no = false ∧ S.dev.readE no = 0 ∧ ∃ ro' g, e = .returned (.tuple #[.agg (bcells (S.dev.readB no)), .int .i64 0]) ∧ HP w' ro' (A.know no g) (({ S with dev := S.dev.read no } : CS).know no (S.dev.readB no)) ∧ Tr ro ro' w w')
set_option maxRecDepth 100000 in
set_option maxHeartbeats 4000000 in
theorem get_any (h : HP w ro A S) (no : Int) (hlo : -9223372036854775808 ≤ no) (hhi : no < 9223372036854775808) (hrd : S.dev.rd < 4611686018427387904) (hnb : A.nb < 1000000) :
    Calls Tryz.prog 17 #[ptr A.ca, .int .i64 no] w (RetG w ro A S no) := by
  have H := Lib.hid h
  clear h
  obtain ⟨C0, hC0⟩ : ∃ C0, ptr A.ca = C0 := ⟨_, rfl⟩
  have HC := Lib.hid hC0
  rw [hC0]
  clear hC0
  go_enter Tryz.func17, Tryz.ntmps17
  go_wp2_with (refine wpList_alloc_row rfl _ rfl _ Tryz.blockZero ?_)
  apply Stop.go; intro w1 Hg1 Hb1
  have H1 := Lib.hid (H.out.ext Hg1.out.1)
  have T1 := Lib.hid (Tr.of_below ro Hg1.out.1)
  have n1 : ro w.heap.size = none := H.out.none_ge (Nat.le_refl _)
  go_wp2_with fail
  rw [← HC.out]
  refine (known_any H1.out no hlo hhi hrd hnb).mono ?_; rintro e w2 hr
  rcases hr with ⟨hk, rfl, rfl⟩ | ⟨hk, hE, rfl, h2, t2⟩ | ⟨hk, hE, ro', g, hg, rfl, h2, t2⟩
  · have HK := Lib.hid hk
    have L := Lib.hid (H1.out.blkLen hk)
    have HB := Lib.hid (H1.out.kb hk)
    clear hk
    unfold ptr
    go_wp2_with (first | refine wpList_load_part rfl _ _ rfl _ 256 rfl (bvl (S.view no)) _ _ HB.out (fun j hj => kc_view L.out.1 L.out.2.1 j (by rw [bvl_len, L.out.2.1] at hj; exact hj)) _ Tryz.underlying50 rfl (by rw [bvl_len, L.out.2.1]; exact Tryz.blockSize) _ rfl ?_ | refine wpList_store_arr rfl _ _ _ rfl _ (bcells (S.view no)) rfl rfl _ _ Hb1.out (Tryz.blockFits L.out.2.1) (by rw [bcells_size, bcells_size, L.out.2.1, zeros_len]) (oneCell_bcells _) ?_)
    apply Stop.go; intro w3 Ho3 Hb3
    go_wp2_with fail
    (with_reducible show bodyPost _ _ _ _ _ _); refine bodyPost_cell_tmp rfl _ rfl _ _ Hb3.out _ _ Tryz.underlying50 (Tryz.blockFits L.out.2.1) rfl _ rfl ?_
    apply Stop.go
    exact Or.inl ⟨HK.out, rfl, H1.out.only_none Ho3.out n1, T1.out.new Ho3.out (Nat.le_refl _)⟩
  · have d0 : (S.dev.readE no != 0) = true := by simpa using hE
    have HE := Lib.hid hE
    have HK := Lib.hid hk
    have H2 := Lib.hid h2
    have T2 := Lib.hid (T1.out.trans t2)
    have Hb2 := Lib.hid (Hb1.out.tr t2 n1)
    clear hE hk h2 t2
    go_wp2_with (first | refine wpList_build_zero rfl _ rfl _ Tryz.blockZero _ _ Tryz.underlying50 Tryz.byteSize ?_ | refine wpList_store_arr rfl _ _ _ rfl _ (bcells (zeros 256)) rfl rfl _ _ Hb2.out (Tryz.blockFits (zeros_len 256)) rfl (oneCell_bcells _) ?_)
    apply Stop.go; intro w3 Ho3 Hb3
    go_wp2_with fail
    (with_reducible show bodyPost _ _ _ _ _ _); refine bodyPost_cell_tmp rfl _ rfl _ _ Hb3.out _ _ Tryz.underlying50 (Tryz.blockFits (zeros_len 256)) rfl _ rfl ?_
    apply Stop.go
    exact Or.inr (Or.inl ⟨HK.out, HE.out, rfl, H2.out.only_none Ho3.out n1, T2.out.new Ho3.out (Nat.le_refl _)⟩)
  · have HE := Lib.hid hE
    have HK := Lib.hid hk
    have H2 := Lib.hid h2
    have T2 := Lib.hid (T1.out.trans t2)
    have n2 := (t2.keep w.heap.size Hb1.out.lt n1).1
    have Hb2 := Lib.hid (Hb1.out.tr t2 n1)
    have hkn : (({ S with dev := S.dev.read no } : CS).know no (S.dev.readB no)).kn no = true := updF_same _ _ _
    have L := Lib.hid (H2.out.blkLen hkn)
    have HB := Lib.hid (H2.out.kb hkn)
    simp only [CS.know, CA.know, updF_same] at L HB
    clear hE hk h2 t2 hkn
    unfold ptr
    go_wp2_with (first | refine wpList_load_part rfl _ _ rfl _ 256 rfl (bvl (S.dev.readB no)) _ _ HB.out (fun j hj => kc_view L.out.1 L.out.2.1 j (by rw [bvl_len, L.out.2.1] at hj; exact hj)) _ Tryz.underlying50 rfl (by rw [bvl_len, L.out.2.1]; exact Tryz.blockSize) _ rfl ?_ | refine wpList_store_arr rfl _ _ _ rfl _ (bcells (S.dev.readB no)) rfl rfl _ _ Hb2.out (Tryz.blockFits L.out.2.1) (by rw [bcells_size, bcells_size, L.out.2.1, zeros_len]) (oneCell_bcells _) ?_)
    apply Stop.go; intro w3 Ho3 Hb3
    go_wp2_with fail
    (with_reducible show bodyPost _ _ _ _ _ _); refine bodyPost_cell_tmp rfl _ rfl _ _ Hb3.out _ _ Tryz.underlying50 (Tryz.blockFits L.out.2.1) rfl _ rfl ?_
    apply Stop.go
    exact Or.inr (Or.inr ⟨HK.out, HE.out, _, _, rfl, H2.out.only_none Ho3.out n2, T2.out.new Ho3.out (Nat.le_refl _)⟩)
end

end Go.Proofs.YtpmbpklbiocclaaGreat

/-
  The program's: New.
-/
namespace Go.Proofs.YtpmbpklbiocclaaGreat
open Go.RowKit

def CS.new (d : Dev) : CS := ⟨d, 0, 0, fun _ => false, fun _ => false, fun _ => [], fun _ => [], fun _ => 0, fun _ => [], fun _ => [], fun _ => false, fun _ => ⟨0, 0, ⟨0, []⟩, []⟩, fun _ => 0, fun _ => []⟩
def CA.new (c mb ml b g : Nat) : CA := ⟨c, mb, ml, b, g, 0, 0, fun _ => 0, fun _ => 0, fun _ => .slice none 0 0, fun _ => .slice none 0 0, fun _ => ⟨none, 0, 0, none, 0, 0⟩⟩
def roD (b g : Nat) : Nat → Option Rl := fun k => if k = b ∨ k = g then some .dv else none
theorem pmap_none (a : Int → Nat) : pmap (fun _ => false) a = fun _ => none := by
  funext k
  unfold pmap
  rfl
set_option maxHeartbeats 1600000 in
theorem cnew_any (b g : Nat) (d : Dev) (w : World) (h : DV w b g d) :
    Calls Tryz.prog 19 #[ptr b] w fun e w' => ∃ ro A, e = .returned (ptr A.ca) ∧ HP w' ro A (CS.new d) ∧ Tr (roD b g) ro w w' ∧ A.dv = b ∧ A.dt = g ∧ A.nb = 0 ∧ A.nl = 0 := by
  have HD := Lib.hid h
  have hl := h.lt
  clear h
  unfold ptr
  go_enter Tryz.func19, Tryz.ntmps19
  go_wp2_with (first | refine wpList_makeZ (zv := .pointer none) rfl _ rfl 3 ?_)
  apply Stop.go; intro w1 Hg1 Hm1
  go_wp2_with (first | refine wpList_makeZ (zv := .pointer none) rfl _ rfl 3 ?_)
  apply Stop.go; intro w2 Hg2 Hm2
  go_wp2_with (first | refine wpList_box_row rfl _ _ rfl _ rfl ?_)
  apply Stop.go; intro w3 Hg3 Hb3
  have s1 := Hg1.out.2
  have s2 := Hg2.out.2
  have s3 := Hg3.out.2
  have B3 := Lib.hid (bt (bt Hg1.out.1 Hg2.out.1) Hg3.out.1)
  have M1 := Lib.hid (Hm1.out.ext (bt Hg2.out.1 Hg3.out.1))
  have M2 := Lib.hid (Hm2.out.ext Hg3.out.1)
  have D3 := Lib.hid (HD.out.ext B3.out)
  go_wp2_with fail
  go_ret
  obtain ⟨R, hR⟩ : ∃ R : Nat → Option Rl, R = fun k => if k = w2.heap.size then some .ca else if k = w1.heap.size then some .ml else if k = w.heap.size then some .mb else roD b g k := ⟨_, rfl⟩
  have r1 : R w2.heap.size = some .ca := by rw [hR]; exact if_pos rfl
  have r2 : R w1.heap.size = some .ml := by subst hR; dsimp only; rw [if_neg (by omega), if_pos rfl]
  have r3 : R w.heap.size = some .mb := by subst hR; dsimp only; rw [if_neg (by omega), if_neg (by omega), if_pos rfl]
  have r4 : ∀ k, k < w.heap.size → R k = roD b g k := fun k hk => by subst hR; dsimp only; rw [if_neg (by omega), if_neg (by omega), if_neg (by omega)]
  have r5 : ∀ k r, R k = some r → k < w3.heap.size := fun k r hk => by
    subst hR
    dsimp only at hk
    by_cases e1 : k = w2.heap.size
    · omega
    · rw [if_neg e1] at hk
      by_cases e2 : k = w1.heap.size
      · omega
      · rw [if_neg e2] at hk
        by_cases e3 : k = w.heap.size
        · omega
        · rw [if_neg e3] at hk
          unfold roD at hk
          by_cases e4 : k = b ∨ k = g
          · omega
          · rw [if_neg e4] at hk; cases hk
  clear hR
  refine ⟨R, CA.new w2.heap.size w.heap.size w1.heap.size b g, rfl, ⟨fun r => ?_, r5⟩, (Tr.of_below (roD b g) B3.out).own r4, rfl, rfl, rfl, rfl⟩
  cases r with
  | ca => exact ⟨r1, Hb3.out⟩
  | mb => exact ⟨r3, by
      show MapZ _ _ _ _ _ _ (pmap (fun _ => false) _)
      rw [pmap_none]
      exact M1.out⟩
  | ml => exact ⟨r2, by
      show MapZ _ _ _ _ _ _ (pmap (fun _ => false) _)
      rw [pmap_none]
      exact M2.out⟩
  | dv => exact ⟨(r4 b hl.1).trans (if_pos (Or.inl rfl)), (r4 g hl.2).trans (if_pos (Or.inr rfl)), D3.out⟩
  | blk k => exact fun hq => by cases hq
  | fr k => exact fun hq => by cases hq
  | chg k => exact fun hq => by cases hq
  | bh k => exact fun hq => by cases hq
  | dat k => exact fun hq => by cases hq

end Go.Proofs.YtpmbpklbiocclaaGreat

/-
  A cache in memory: a change joins a list of it; a change that is new is its; what is not its stays.
-/
namespace Go.Proofs.YtpmbpklbiocclaaGreat
open Go.RowKit

def addO (ro : Nat → Option Rl) (v : Value) (r : Rl) : Nat → Option Rl := fun g => if v.ownBlock = some g then some r else ro g
section
variable {w w1 w2 w' : World} {ro ro' : Nat → Option Rl} {A : CA} {S : CS}
theorem addO_old {v v' : Value} {r : Rl} (h : ∀ g, v.ownBlock = some g → ro g = some r) {n : Nat} (hp : v'.ownBlock = v.ownBlock ∨ v'.ownBlock = some n ∨ v'.ownBlock = none) {g : Nat} (hg : g < n) : addO ro v' r g = ro g := by
  unfold addO
  by_cases e : v'.ownBlock = some g
  · rw [if_pos e]
    rcases hp with hp | hp | hp
    · rw [hp] at e; exact (h g e).symm
    · rw [hp] at e; injection e with e; omega
    · rw [hp] at e; cases e
  · rw [if_neg e]
theorem HP.setF (h : HP w ro A S) {k : Int} (hk : S.kn k = true) (v : Value) (L : List Int) (hg : w.grownBy w1 (A.fv k).ownBlock) (hp : v.ownBlock = (A.fv k).ownBlock ∨ v.ownBlock = some w.heap.size ∨ v.ownBlock = none)
    (hv : OwnC w1 0 95 v (ptrs A.ha L)) (ho : Only w1 w2 (A.ka k)) (hb : Blk w2 (A.ka k) 108 (kc (S.base k) (S.view k) (S.dirty k) v (S.lat k)).toArray) :
    HP w2 (addO ro v (.fr k)) { A with fv := updF A.fv k v } { S with free := updF S.free k L } := by
  have h0 := h.asn (.blk k) hk
  have h1 := h.asn (.fr k) hk
  have hold : ∀ g, g < w.heap.size → addO ro v (.fr k) g = ro g := fun g hl => addO_old h1.1 hp hl
  have hsz : w1.heap.size ≤ w2.heap.size := Nat.le_of_eq ho.size.symm
  have hne : v.ownBlock ≠ some (A.ka k) := fun e => by
    rcases hp with hp | hp | hp
    · rw [hp] at e; have := h1.1 _ e; rw [h0.1] at this; cases this
    · rw [hp] at e; injection e with e; have := h0.2.1.lt; omega
    · rw [hp] at e; cases e
  refine h.turn (fun r => r = .fr k ∨ r = .blk k) (Nat.le_trans hg.size hsz) (fun g r hr hn => ?_) hold (fun g r hl hr => ?_) (fun r hr ha => ?_) (fun r hr => ?_)
  · rw [ho.block g (fun e => hn (by rw [e, h0.1] at hr; injection hr with hr; exact Or.inr hr.symm))]
    exact hg.block g (h.lt g r hr) (fun e => hn (by
      have := h1.1 g e.symm
      rw [hr] at this
      injection this with this
      exact Or.inl this))
  · unfold addO at hr
    by_cases e : v.ownBlock = some g
    · have := (hv.lt g e).2; omega
    · rw [if_neg e] at hr; have := h.lt g r hr; omega
  · cases r with
    | blk j =>
      have hj : j ≠ k := fun e => hr (by rw [e]; exact Or.inr rfl)
      intro hq
      have hq2 := ha hq
      simp only [updF_other _ _ hj]
      exact hq2
    | fr j =>
      have hj : j ≠ k := fun e => hr (by rw [e]; exact Or.inl rfl)
      intro hq
      have hq2 := ha hq
      simp only [updF_other _ _ hj]
      exact hq2
    | _ => exact ha
  · rcases hr with rfl | rfl
    · intro _
      simp only [updF_same]
      exact ⟨fun g e => if_pos e, hv.same fun g e => ho.block g fun e2 => hne (by rw [← e2]; exact e)⟩
    · intro _
      simp only [updF_same]
      exact ⟨(hold _ h0.2.1.lt).trans h0.1, hb, h0.2.2⟩
theorem HP.setB (h : HP w ro A S) {i : Int} (hi : S.live i = true) (v : Value) (L : List Int) (hg : w.grownBy w1 (A.hv i).ownBlock) (hp : v.ownBlock = (A.hv i).ownBlock ∨ v.ownBlock = some w.heap.size ∨ v.ownBlock = none)
    (hv : OwnC w1 0 95 v (ptrs A.ha L)) (ho : Only w1 w2 (A.ha i)) (hb : Blk w2 (A.ha i) 101 (hcells (S.cg i) (A.sl i) (S.waits i) v)) :
    HP w2 (addO ro v (.bh i)) { A with hv := updF A.hv i v } { S with beh := updF S.beh i L } := by
  have h0 := h.asn (.chg i) hi
  have h1 := h.asn (.bh i) hi
  have hold : ∀ g, g < w.heap.size → addO ro v (.bh i) g = ro g := fun g hl => addO_old h1.1 hp hl
  have hsz : w1.heap.size ≤ w2.heap.size := Nat.le_of_eq ho.size.symm
  have hne : v.ownBlock ≠ some (A.ha i) := fun e => by
    rcases hp with hp | hp | hp
    · rw [hp] at e; have := h1.1 _ e; rw [h0.1] at this; cases this
    · rw [hp] at e; injection e with e; have := h0.2.lt; omega
    · rw [hp] at e; cases e
  refine h.turn (fun r => r = .bh i ∨ r = .chg i) (Nat.le_trans hg.size hsz) (fun g r hr hn => ?_) hold (fun g r hl hr => ?_) (fun r hr ha => ?_) (fun r hr => ?_)
  · rw [ho.block g (fun e => hn (by rw [e, h0.1] at hr; injection hr with hr; exact Or.inr hr.symm))]
    exact hg.block g (h.lt g r hr) (fun e => hn (by
      have := h1.1 g e.symm
      rw [hr] at this
      injection this with this
      exact Or.inl this))
  · unfold addO at hr
    by_cases e : v.ownBlock = some g
    · have := (hv.lt g e).2; omega
    · rw [if_neg e] at hr; have := h.lt g r hr; omega
  · cases r with
    | chg j =>
      have hj : j ≠ i := fun e => hr (by rw [e]; exact Or.inr rfl)
      intro hq
      have hq2 := ha hq
      simp only [updF_other _ _ hj]
      exact hq2
    | bh j =>
      have hj : j ≠ i := fun e => hr (by rw [e]; exact Or.inl rfl)
      intro hq
      have hq2 := ha hq
      simp only [updF_other _ _ hj]
      exact hq2
    | _ => exact ha
  · rcases hr with rfl | rfl
    · intro _
      simp only [updF_same]
      exact ⟨fun g e => if_pos e, hv.same fun g e => ho.block g fun e2 => hne (by rw [← e2]; exact e)⟩
    · intro _
      simp only [updF_same]
      exact ⟨(hold _ h0.2.lt).trans h0.1, hb⟩
theorem pmap_congr {f : Int → Bool} {a a' : Int → Nat} (h : ∀ i, f i = true → a' i = a i) : pmap f a' = pmap f a := by
  funext k
  unfold pmap
  by_cases hk : f k = true
  · rw [if_pos hk, if_pos hk, h k hk]
  · rw [if_neg hk, if_neg hk]
def chgO (ro : Nat → Option Rl) (i : Int) (g : Nat) (s : Sl) : Nat → Option Rl := fun k => if k = g then some (.chg i) else if (∃ ad, s.Ad = some ad ∧ ad.block = k) ∨ (∃ ad, s.An = some ad ∧ ad.block = k) then some (.dat i) else ro k
def CA.chg (A : CA) (i : Int) (g : Nat) (s : Sl) : CA := { A with ha := updF A.ha i g, hv := updF A.hv i (.slice none 0 0), sl := updF A.sl i s }
def CS.chg (S : CS) (i : Int) (c : Cg) (n : Int) : CS := { S with live := updF S.live i true, cg := updF S.cg i c, waits := updF S.waits i n, beh := updF S.beh i [] }
theorem chgO_old {i : Int} {g : Nat} {s : Sl} {k : Nat} (h1 : k ≠ g) (h2 : ∀ ad, s.Ad = some ad → ad.block ≠ k) (h3 : ∀ ad, s.An = some ad → ad.block ≠ k) : chgO ro i g s k = ro k := by
  unfold chgO
  rw [if_neg h1, if_neg]
  rintro (⟨ad, e1, e2⟩ | ⟨ad, e1, e2⟩)
  · exact h2 ad e1 e2
  · exact h3 ad e1 e2
theorem HP.chg (h : HP w ro A S) {i : Int} (hl : S.live i = false) (hf : S.lf i = false) (hfr : ∀ k, S.kn k = true → i ∉ S.free k) (hbe : ∀ j, S.live j = true → i ∉ S.beh j) {g : Nat} {c : Cg} {s : Sl} {n : Int} (hg : Blk w g 101 (hcells c s n (.slice none 0 0))) (hn : ro g = none)
    (hc : s.cv w c) (h1 : ∀ ad, s.Ad = some ad → ad.block < w.heap.size ∧ ro ad.block = none ∧ ad.block ≠ g) (h2 : ∀ ad, s.An = some ad → ad.block < w.heap.size ∧ ro ad.block = none ∧ ad.block ≠ g) : HP w (chgO ro i g s) (A.chg i g s) (S.chg i c n) := by
  have hold : ∀ k r, ro k = some r → chgO ro i g s k = some r := fun k r hk => (chgO_old (fun e => by rw [e, hn] at hk; cases hk) (fun ad e e2 => by have := (h1 ad e).2.1; rw [e2, hk] at this; cases this) (fun ad e e2 => by have := (h2 ad e).2.1; rw [e2, hk] at this; cases this)).trans hk
  have hfr2 : ∀ r, Asn w (chgO ro i g s) A S r := fun r => (h.asn r).frame fun k hk => ⟨rfl, hold k r hk⟩
  refine ⟨fun r => ?_, fun k r hk => ?_⟩
  · cases r with
    | ca => exact hfr2 .ca
    | mb => exact hfr2 .mb
    | ml =>
      have h3 := hfr2 .ml
      have e : pmap S.lf (updF A.ha i g) = pmap S.lf A.ha := pmap_congr fun j hj => updF_other _ _ fun e => by rw [e, hf] at hj; cases hj
      exact ⟨h3.1, by show MapZ _ _ _ _ _ _ (pmap S.lf (updF A.ha i g)); rw [e]; exact h3.2⟩
    | dv => exact hfr2 .dv
    | blk k => exact hfr2 (.blk k)
    | fr k =>
      intro hk
      have h3 := hfr2 (.fr k) hk
      have e : ptrs (updF A.ha i g) (S.free k) = ptrs A.ha (S.free k) := ptrs_congr fun j hj => updF_other _ _ fun e => hfr k hk (by rw [← e]; exact hj)
      exact ⟨h3.1, by show OwnC _ _ _ _ (ptrs (updF A.ha i g) (S.free k)); rw [e]; exact h3.2⟩
    | chg j =>
      by_cases hj : j = i
      · subst hj
        intro _
        simp only [CA.chg, CS.chg, updF_same]
        exact ⟨if_pos rfl, hg⟩
      · intro hq
        simp only [CA.chg, CS.chg, updF_other _ _ hj] at hq ⊢
        exact hfr2 (.chg j) hq
    | bh j =>
      by_cases hj : j = i
      · subst hj
        intro _
        simp only [CA.chg, CS.chg, updF_same]
        exact ⟨fun k hk => by simp [Value.ownBlock] at hk, OwnC.nil_ _ _ _⟩
      · intro hq
        simp only [CA.chg, CS.chg, updF_other _ _ hj] at hq ⊢
        have h3 := hfr2 (.bh j) hq
        have e : ptrs (updF A.ha i g) (S.beh j) = ptrs A.ha (S.beh j) := ptrs_congr fun m hm => updF_other _ _ fun e => hbe j hq (by rw [← e]; exact hm)
        rw [e]
        exact h3
    | dat j =>
      by_cases hj : j = i
      · subst hj
        intro _
        simp only [CA.chg, CS.chg, updF_same]
        refine ⟨hc, fun ad e => ?_, fun ad e => ?_⟩
        · unfold chgO
          rw [if_neg (h1 ad e).2.2, if_pos (Or.inl ⟨ad, e, rfl⟩)]
        · unfold chgO
          rw [if_neg (h2 ad e).2.2, if_pos (Or.inr ⟨ad, e, rfl⟩)]
      · intro hq
        simp only [CA.chg, CS.chg, updF_other _ _ hj] at hq ⊢
        exact hfr2 (.dat j) hq
  · unfold chgO at hk
    by_cases e1 : k = g
    · rw [e1]; exact hg.lt
    · rw [if_neg e1] at hk
      by_cases e2 : (∃ ad, s.Ad = some ad ∧ ad.block = k) ∨ (∃ ad, s.An = some ad ∧ ad.block = k)
      · rcases e2 with ⟨ad, q1, q2⟩ | ⟨ad, q1, q2⟩
        · rw [← q2]; exact (h1 ad q1).1
        · rw [← q2]; exact (h2 ad q1).1
      · rw [if_neg e2] at hk; exact h.lt k r hk
theorem RC.tr {Ad : Option Addr} {l : List Value} (h : RC w Ad l) (k : Tr ro ro' w w') (hn : ∀ ad, Ad = some ad → ro ad.block = none) : RC w' Ad l := fun j hj => by
  obtain ⟨ad, e, hc⟩ := h j hj
  refine ⟨ad, e, ?_⟩
  have hb : (ad.add j).block = ad.block := block_of_add ad j
  have hlt := block_lt_of_cell hc
  rw [hb] at hlt
  rw [← hc]
  unfold World.cell?
  rw [hb, (k.keep ad.block hlt (hn ad e)).2]
theorem RC.tr0 {Ad : Option Addr} {l : List Value} (h : RC w Ad l) (k : Tr ro ro' w w') (hn : 0 < l.length → ∀ ad, Ad = some ad → ro ad.block = none) : RC w' Ad l := fun j hj => (h.tr k (hn (by omega))) j hj
theorem Tr.grown (h : Tr ro ro' w w1) {b : Option Nat} (k : w1.grownBy w2 b) (hb : ∀ g, b = some g → ro' g ≠ none) : Tr ro ro' w w2 := h.trans (Tr.of_grown k hb)
theorem Tr.addO {v v' : Value} {r : Rl} (h : Tr ro ro' w w1) (hr : ∀ g, v.ownBlock = some g → ro' g = some r) {n : Nat} (hp : v'.ownBlock = v.ownBlock ∨ v'.ownBlock = some n ∨ v'.ownBlock = none) (hn : w.heap.size ≤ n) : Tr ro (addO ro' v' r) w w1 :=
  h.own fun g hg => addO_old hr hp (by omega)
end

end Go.Proofs.YtpmbpklbiocclaaGreat
