/-
  Contracts of the document's answer 11: Depth, After.
-/
import Derived.Test.YtmcinaigkjfehaaRef11b
namespace Go.Proofs.Ytmcinaigkjfehaa
open Go.RowKit

theorem maxL_step (z : Int → Nat) (r : List Int) {j : Nat} (hj : j < r.length) : maxL ((r.take (j + 1)).map z) = max (maxL ((r.take j).map z)) (z r[j]) := by
  rw [List.take_succ_eq_append_getElem hj, List.map_append]
  exact maxL_snoc _ _
theorem after_len (l : List Cg) (bs : List Int) : (afterC l bs).length ≤ l.length := by
  induction bs generalizing l with
  | nil => exact Nat.le_refl _
  | cons b bs ih =>
    rw [afterC_cons]
    exact Nat.le_trans (ih _) (List.length_filter_le _ _)
theorem after_snoc (l : List Cg) (bs : List Int) (b : Int) : afterC l (bs ++ [b]) = leftC (afterC l bs) b := by
  unfold afterC
  rw [List.foldl_append]
  rfl
theorem ready_len (l : List Cg) (b : Int) : (readyC l b).length ≤ l.length := by
  have := (readyC_sub (l := l) (block := b)).length_le
  rwa [List.length_map] at this

set_option maxRecDepth 100000 in
set_option maxHeartbeats 16000000 in
theorem rdepth11_any (A : Option Addr) (n cap : Nat) (l : List Cg) (hl : l.length = n) (hm : n ≤ 4096) (hN : ∀ c ∈ l, c.needs.length ≤ 4096) (id : Int) (w : World) (hr : RdL RdC w A 5 l) :
    Calls Try.prog 15 #[.slice A n cap, .int .i64 id] w fun e w' => e = .returned (.int .i64 (depthC l id : Int)) ∧ Below w.heap.size w w' := by
  have HC := Lib.hid (rmay_any A n cap l hl hm hN w hr)
  have HPl := Lib.hid (rplace_any A n cap l hl (by unfold maxLen; omega) id w hr)
  have Hl := Lib.hid hl
  have Hr := Lib.hid hr
  have HNN := Lib.hid hN
  obtain ⟨dd, hdd⟩ : ∃ d, depthC l id = d := ⟨_, rfl⟩
  have Hdd := Lib.hid hdd
  rw [hdd]
  clear hl hr hN hdd
  go_enter Try.func15, Try.ntmps15
  go_wp2_with fail
  refine (HPl.out).mono ?_; rintro e wx ⟨rfl, hpl⟩
  rcases hpl with ⟨p, hp, rfl, hid, -⟩ | ⟨rfl, hno⟩
  rotate_left
  focus (
    have HE : Hid (dd = 0) := Lib.hid (by rw [← Hdd.out]; exact depthC_no (fun ⟨c, hc, e⟩ => hno c hc e))
    clear hno
    cases hmay : mayC l
    all_goals
      rw [hmay] at HC
      clear hmay
      go_wp2_with fail
      refine (HC.out).mono ?_; rintro e w2 ⟨rfl, hb2⟩
      go_wp2_with fail
      go_ret
      exact ⟨by rw [HE.out]; rfl, hb2⟩)
  have d0 : decide ((p : Int) < 0) = false := by simp
  cases hmay : mayC l
  · rw [hmay] at HC
    have HE : Hid (dd = 0) := Lib.hid (by rw [← Hdd.out]; exact depthC_wrong hmay)
    clear hmay hp hid
    go_wp2_with fail
    refine (HC.out).mono ?_; rintro e w2 ⟨rfl, hb2⟩
    go_wp2_with fail
    go_ret
    exact ⟨by rw [HE.out]; rfl, hb2⟩
  · rw [hmay] at HC
    have HMay := Lib.hid hmay
    have hpn : p < n := by have := Hl.out; omega
    have z0 : (p : Int) < n := by omega
    obtain ⟨z, hz⟩ : ∃ z : Nat → Int, z = fun k => if h : k < l.length then (depthC l l[k].id : Int) else 0 := ⟨_, rfl⟩
    have HZ : Hid (∀ k (h : k < l.length), z k = (depthC l l[k].id : Int)) := Lib.hid (fun k h => by rw [hz]; simp [h])
    have HZp : Hid (z p = (dd : Int)) := Lib.hid (by rw [HZ.out p hp, hid, Hdd.out])
    have HDb : Hid (∀ x, depthC l x ≤ 4096) := Lib.hid (fun x => by
      have h1 := depthC_le (id := x) hmay
      have h2 := allC_le_len l x
      have := Hl.out
      omega)
    clear hmay hp hid hz
    go_wp2_with fail
    refine (HC.out).mono ?_; rintro e w2 ⟨rfl, hb2⟩
    have Hb2 := Lib.hid hb2
    clear hb2
    go_wp2_with (refine wpList_make_zero rfl _ _ _ _ rfl Try.underlying28 (.int .i64 0) 8 Try.infoInt rfl .i64 .i64 _ _ n rfl rfl rfl rfl (by omega) (by omega) (zc n (fun _ => 0)) (zc_zero n) ?_)
    apply Stop.go; intro w3 Hg3 Hb3
    have Hw3 := Lib.hid (bt Hb2.out Hg3.out.1)
    have Hgw : Hid (w.heap.size ≤ w2.heap.size) := Lib.hid Hb2.out.size
    clear Hg3
    generalize w2.heap.size = gD at *
    go_wp2_with fail
    go_loopw [7] (fun i wr => ∃ k : Nat, k ≤ n ∧ i = .int .i64 k ∧ Blk wr gD 3 (zc n (fun i => if i < k then z i else 0)) ∧ Below w.heap.size w wr) (fun i _ => n - (intOf i).toNat)
    case atStart => exact ⟨0, Nat.zero_le _, rfl, by have := Hb3.out; rw [zc_congr (z := fun _ => 0) (fun k _ => by rw [if_neg (Nat.not_lt_zero k)])]; exact this, Hw3.out⟩
    case round =>
      obtain ⟨k, hk, rfl, hB, hbw⟩ := hrel
      have HB := Lib.hid hB
      have HBw := Lib.hid hbw
      clear hB hbw
      by_cases hlt : k < n
      · have d1 : decide ((k : Int) < n) = true := by simpa using hlt
        have hkl : k < l.length := by have := Hl.out; omega
        have z5 : (k : Int) < n := by omega
        obtain ⟨ad, Ad, nd, cd, An, nn, cn, rfl, hcv, h0, h1, h2, h3, h4⟩ := (Hr.out.below HBw.out).cg hkl
        have h00 := cell_fld (i := 0) h0 (by rw [add_of_add]; exact h0)
        have Hat : Hid (∀ x ∈ waitsC l l[k].id, ∃ q, ∃ hq : q < l.length, l[q].id = x ∧ q < k) := Lib.hid (fun x hx => by
          obtain ⟨d, hd, e⟩ := waitsC_mem hx
          obtain ⟨q, hq, rfl⟩ := List.getElem_of_mem hd
          exact ⟨q, hq, e, wait_ahead HMay.out hkl hq (by rw [e]; exact hx)⟩)
        have HDp := Lib.hid (depth_at HMay.out hkl)
        have HZk := Lib.hid (HZ.out k hkl)
        have HSt := Lib.hid (zc_step n z k)
        clear h1 h2 h3 h4 hcv
        generalize l[k].id = y at *
        go_wp2_with fail
        refine (rwaits9_any (some ad) n cap l Hl.out hm HNN.out y _ (Hr.out.below HBw.out)).mono ?_; rintro e w5 ⟨A5, n5, c5, rfl, hn5, hc5, hm5, hr5, hb5⟩
        have HB5 := Lib.hid (HB.out.ext hb5)
        have HBw5 := Lib.hid (bt HBw.out hb5)
        have Hn5 := Lib.hid hn5
        have Hr5 := Lib.hid hr5
        have hlW : n5 ≤ 4096 := by
          rw [← hn5]
          have := waitsC_len l y
          have := Hl.out
          omega
        clear hn5 hr5 hb5 h0 h00 HB HBw
        generalize waitsC l y = W at *
        go_wp2_with fail
        go_loopw [9, 10] (fun v i wr => ∃ j : Nat, j ≤ n5 ∧ i = .int .i64 j ∧ v = .int .i64 (maxL ((W.take j).map (depthC l)) : Int) ∧ Below w5.heap.size w5 wr) (fun _ i _ => n5 - (intOf i).toNat)
        case atStart => exact ⟨0, Nat.zero_le _, rfl, rfl, Below.refl _ _⟩
        case round =>
          obtain ⟨j, hj, rfl, hv, hbw⟩ := hrel
          have Hbw := Lib.hid hbw
          obtain ⟨m, hm0⟩ : ∃ m, maxL ((W.take j).map (depthC l)) = m := ⟨_, rfl⟩
          rw [hm0] at hv
          subst hv
          have HM := Lib.hid hm0
          clear hm0 hbw
          by_cases hjl : j < n5
          · have d2 : decide ((j : Int) < n5) = true := by simpa using hjl
            have hjW : j < W.length := by have := Hn5.out; omega
            obtain ⟨ak, rfl, k3⟩ := (Hr5.out.below Hbw.out).int j hjW
            obtain ⟨q0, hq0, hq0e, hq0k⟩ := Hat.out W[j] (List.getElem_mem hjW)
            have HMs := Lib.hid (maxL_step (depthC l) W hjW)
            rw [HM.out] at HMs
            have HPq := Lib.hid (rplace_any (some ad) n cap l Hl.out (by unfold maxLen; omega) W[j] _ ((Hr.out.below HBw5.out).below Hbw.out))
            generalize W[j] = x at *
            go_wp2_with fail
            refine (HPq.out).mono ?_; rintro e wx ⟨rfl, hpl⟩
            rcases hpl with ⟨q, hq, rfl, hqe, -⟩ | ⟨rfl, hno⟩
            rotate_left
            · exact absurd hq0e (hno _ (List.getElem_mem hq0))
            have e1 := mayC_ids HMay.out hq hq0 (hqe.trans hq0e.symm)
            subst e1
            have hqn : q < n := by have := Hl.out; omega
            have z6 : (q : Int) < n := by omega
            obtain ⟨v, hv⟩ : ∃ v, depthC l x = v := ⟨_, rfl⟩
            have k4 : wr.cell? ⟨gD, q, none⟩ = some (.int .i64 (v : Int)) := by
              rw [(HB5.out.ext Hbw.out).cell, zc_get _ hqn, if_pos hq0k, HZ.out q hq, hqe, hv]
            rw [hv] at HMs
            clear HPq hq hqe hq0 hq0e k3 hv
            by_cases hgt : m < v
            · have d3 : decide ((m : Int) < (v : Int)) = true := by simpa using hgt
              have d4 : decide (m < v) = true := by simpa using hgt
              have HX : Hid (maxL ((W.take (j + 1)).map (depthC l)) = v) := Lib.hid (by rw [HMs.out]; omega)
              clear hgt
              go_wp2_with fail
              go_roundw
              case rel => exact ⟨j + 1, by omega, by go_num, by rw [HX.out], Hbw.out⟩
              case measure => simp [intOf]; omega
            · have d3 : decide ((m : Int) < (v : Int)) = false := by simpa using hgt
              have d4 : decide (m < v) = false := by simpa using hgt
              have HX : Hid (maxL ((W.take (j + 1)).map (depthC l)) = m) := Lib.hid (by rw [HMs.out]; omega)
              clear hgt
              go_wp2_with fail
              go_roundw
              case rel => exact ⟨j + 1, by omega, by go_num, by rw [HX.out], Hbw.out⟩
              case measure => simp [intOf]; omega
          · have d2 : decide ((j : Int) < n5) = false := by simpa using hjl
            have HM2 : Hid (maxL (W.map (depthC l)) = m) := Lib.hid (by rw [← HM.out, List.take_of_length_le (by have := Hn5.out; omega)])
            have hmb : m ≤ 4096 := by
              rw [← HM2.out]
              exact maxL_le fun x hx => by
                obtain ⟨y, _, rfl⟩ := List.mem_map.1 hx
                exact HDb.out y
            have q5 : IntKind.i64.wrap ((m : Int) + 1) = z k := by
              rw [HZk.out, HDp.out, HM2.out, IntKind.wrap_i64]
              omega
            have HB6 := Lib.hid (HB5.out.ext Hbw.out)
            clear hmb
            generalize z k = zk at *
            go_wp2_with (refine wpList_store_cell rfl _ _ _ rfl Try.intSzR gD k rfl (.int .i64 zk) rfl rfl rfl _ _ HB6.out (by rw [zc_size]; exact hlt) ?_)
            apply Stop.go; intro w7 Ho7 Hb7
            rw [HSt.out] at Hb7
            go_wp2_with fail
            go_roundw
            case rel => exact ⟨k + 1, by omega, by go_num, Hb7.out, bonly (bt HBw5.out Hbw.out) Ho7.out Hgw.out⟩
            case measure => simp [intOf]; omega
      · have d1 : decide ((k : Int) < n) = false := by simpa using hlt
        have k4 : wr.cell? ⟨gD, p, none⟩ = some (.int .i64 (dd : Int)) := by
          rw [HB.out.cell, zc_get _ hpn, if_pos (by omega), HZp.out]
        go_wp2_with fail
        go_ret
        exact ⟨rfl, HBw.out⟩

set_option maxRecDepth 100000 in
set_option maxHeartbeats 8000000 in
theorem rafter11_any (A : Option Addr) (n cap : Nat) (l : List Cg) (hl : l.length = n) (hcap : n ≤ cap ∧ cap ≤ maxLen) (hm : n ≤ 4096) (hN : ∀ c ∈ l, c.needs.length ≤ 4096) (Ab : Option Addr) (nb cb : Nat) (bs : List Int) (hnb : bs.length = nb) (hbl : nb ≤ 9223372036854775807) (w : World) (hr : RdL RdC w A 5 l) (hrb : RC w Ab (ivals bs)) :
    Calls Try.prog 25 #[.slice A n cap, .slice Ab nb cb] w (RetC w (afterC l bs)) := by
  have Hl := Lib.hid hl
  have Hr := Lib.hid hr
  have HNN := Lib.hid hN
  have Hnb := Lib.hid hnb
  have Hrb := Lib.hid hrb
  have Hcap := Lib.hid hcap
  clear hl hr hN hnb hrb hcap
  go_enter Try.func25, Try.ntmps25
  go_wp2_with fail
  go_loopw [0, 5] (fun v i wr => ∃ (k : Nat) (A1 : Option Addr) (n1 c1 : Nat), k ≤ nb ∧ i = .int .i64 k ∧ v = .slice A1 n1 c1 ∧ (afterC l (bs.take k)).length = n1 ∧ n1 ≤ c1 ∧ c1 ≤ maxLen ∧ RdL RdC wr A1 5 (afterC l (bs.take k)) ∧ Below w.heap.size w wr) (fun _ i _ => nb - (intOf i).toNat)
  case atStart => exact ⟨0, A, n, cap, Nat.zero_le _, rfl, rfl, Hl.out, Hcap.out.1, Hcap.out.2, Hr.out, Below.refl _ _⟩
  case round =>
    obtain ⟨k, A1, n1, c1, hk, rfl, rfl, h1, h2, h3, h4, h5⟩ := hrel
    have H1 := Lib.hid h1
    have H4 := Lib.hid h4
    have H5 := Lib.hid h5
    have hn1 : n1 ≤ 4096 := by have := after_len l (bs.take k); have := Hl.out; omega
    have HN1 : Hid (∀ c ∈ afterC l (bs.take k), c.needs.length ≤ 4096) := Lib.hid (fun c hc => HNN.out c (afterC_mem _ hc))
    clear h1 h4 h5
    by_cases hlt : k < nb
    · have d0 : decide ((k : Int) < nb) = true := by simpa using hlt
      have hkb : k < bs.length := by have := Hnb.out; omega
      obtain ⟨ab, rfl, k0⟩ := (Hrb.out.below H5.out).int k hkb
      have HA := Lib.hid (show afterC l (bs.take (k + 1)) = leftC (afterC l (bs.take k)) bs[k] by rw [List.take_succ_eq_append_getElem hkb, after_snoc])
      generalize bs[k] = b at *
      generalize afterC l (bs.take k) = L at *
      go_wp2_with fail
      refine (rready9_any A1 n1 c1 L H1.out hn1 HN1.out b _ H4.out).mono ?_; rintro e w5 ⟨A5, n5, c5, rfl, hn5, hc5, hm5, hr5, hb5⟩
      have Hn5 := Lib.hid hn5
      have Hr5 := Lib.hid hr5
      have Hb5 := Lib.hid hb5
      have hn5l : n5 ≤ 4096 := by rw [← hn5]; have := ready_len L b; have := H1.out; omega
      clear hn5 hr5 hb5 k0
      go_wp2_with fail
      refine (rwithout9_any A1 n1 c1 L H1.out hn1 A5 n5 c5 (readyC L b) Hn5.out hn5l _ (H4.out.below Hb5.out) Hr5.out).mono ?_; rintro e w6 ⟨A6, n6, c6, rfl, hn6, hc6, hm6, hr6, hb6⟩
      have HX := Lib.hid (And.intro hn6 (And.intro hc6 (And.intro hm6 (And.intro hr6 (bt (bt H5.out Hb5.out) hb6)))))
      clear hn6 hc6 hm6 hr6 hb6
      go_wp2_with fail
      go_roundw
      case rel => exact ⟨k + 1, A6, n6, c6, by omega, by go_num, rfl, by rw [HA.out]; exact HX.out.1, HX.out.2.1, HX.out.2.2.1, by rw [HA.out]; exact HX.out.2.2.2.1, HX.out.2.2.2.2⟩
      case measure => simp [intOf]; omega
    · have d0 : decide ((k : Int) < nb) = false := by simpa using hlt
      have HE : Hid (afterC l (bs.take k) = afterC l bs) := Lib.hid (by rw [List.take_of_length_le (by have := Hnb.out; omega)])
      rw [HE.out] at H1 H4
      go_wp2_with fail
      go_ret
      exact ⟨A1, n1, c1, rfl, H1.out, h2, h3, H4.out, H5.out⟩

end Go.Proofs.Ytmcinaigkjfehaa
