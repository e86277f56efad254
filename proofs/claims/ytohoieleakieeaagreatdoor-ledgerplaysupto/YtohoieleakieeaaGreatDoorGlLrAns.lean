/-
  Written by mklrans.py: the document's Answer, where it answers.
-/
import Derived.Test.YtohoieleakieeaaGreatDoorGl19
namespace Go.Proofs.YtohoieleakieeaaGreatDoor
open Go Go.RowKit

theorem keep_of {st : Nat → Prop} {w w3 W : World} (h : KeepP st w w3) (hb : Below w.heap.size w3 W) : KeepP st w W :=
  ⟨hb.os.trans h.os, hb.tape.trans h.tape, hb.output.trans h.output, Nat.le_trans h.size hb.size, fun k hk hn => (hb.block k hk).trans (h.block k hk hn)⟩
theorem front_yes {s : Lg.Led} {n : Nat} (h : (!s.fronted || decide (s.front < n)) = true) : Lg.frontS s n = { s with fronted := true, front := n } := by
  unfold Lg.frontS
  rw [if_neg]
  rintro ⟨h1, h2⟩
  rw [h1] at h
  simp at h
  omega
theorem front_no {s : Lg.Led} {n : Nat} (h : (!s.fronted || decide (s.front < n)) = false) : Lg.frontS s n = s := by
  unfold Lg.frontS
  rw [if_pos]
  simp at h
  exact h
theorem grow_no0 {s : Lg.Led} {w : Nat} {p : Lg.Pk} (h : p.asks = false) : Lg.growW s w p = w := by
  unfold Lg.growW
  rw [if_neg (fun q => by rw [h] at q; cases q.1)]
theorem grow_no1 {s : Lg.Led} {w : Nat} {p : Lg.Pk} (h : s.moments = true) (h2 : p.time ≤ s.moment) : Lg.growW s w p = w := by
  unfold Lg.growW
  rw [if_neg (fun q => q.2 ⟨h, h2⟩)]
theorem grow_up {s : Lg.Led} {w : Nat} {p : Lg.Pk} (h : p.asks = true) (h1 : ¬ (s.moments = true ∧ p.time ≤ s.moment)) (h2 : s.thr < 0 ∨ (w : Int) < s.thr) : Lg.growW s w p = w + p.size := by
  unfold Lg.growW
  rw [if_pos ⟨h, h1⟩, if_pos h2]
theorem grow_slow {s : Lg.Led} {w : Nat} {p : Lg.Pk} (h : p.asks = true) (h1 : ¬ (s.moments = true ∧ p.time ≤ s.moment)) (h2 : ¬ (s.thr < 0 ∨ (w : Int) < s.thr)) : Lg.growW s w p = w + 1200 * p.size / w := by
  unfold Lg.growW
  rw [if_pos ⟨h, h1⟩, if_neg h2]

set_option maxRecDepth 20000 in
set_option maxHeartbeats 8000000 in
theorem refAns_yes (g : Nat) (v : Value) (s : Lg.Led) (r : RL) (delay now : Nat) (w : World) (h : RdOk w g v s) (hr : r.Ok w) (c : Nat) (hf : Lg.Fit c s) (hc : c ≤ 2000) (hsep : 0 < r.len → r.g ≠ g) (h0 : Rg.setOk r.l) (h1 : 0 < r.len) (h2 : delay ≤ 1099511627775) (h3 : now ≤ 1099511627775) (h4 : s.now ≤ now) (hl : r.len ≤ 1048576) (h5 : s.any = true) (h6 : lastOf r.l ≤ s.last) (L : List Nat) (S' : Lg.Led) (hcs : (Lg.hitL s r.l = [] ∧ L = [] ∧ S' = { s with now := now }) ∨ (¬ Lg.hitL s r.l = [] ∧ L = Lg.lostL (Lg.struck s r.l delay now) now ∧ S' = Lg.losing (Lg.struck s r.l delay now) now)) :
    Calls Tryz.prog 11 #[.pointer (some ⟨g, 0, none⟩), .slice r.a r.len r.cap, .int .u64 (delay : Int), .int .u64 (now : Int)] w fun e w' => ∃ u1 u2 v', e = .returned (.tuple #[u1, u2, .int .i64 0]) ∧ w'.ownsRow w.heap.size 23 1 u1 (Lg.hitL s r.l).length (vnum ((Lg.hitL s r.l).map (·.num))) ∧ w'.ownsRow w.heap.size 23 1 u2 L.length (vnum L) ∧ RdOk w' g v' S' ∧ KeepP (fun k => k = g) w w' ∧ Stay v v' w := by
  obtain ⟨rl, hrl⟩ : ∃ x, r.l = x := ⟨_, rfl⟩
  rw [hrl]
  rw [hrl] at hcs
  have HCS := veil hcs
  clear hcs
  obtain ⟨N, hN⟩ : ∃ N, s.way.length = N := ⟨_, rfl⟩
  have hN2 : N ≤ 2000 := by rw [← hN]; exact Nat.le_trans hf.cnt hc
  obtain ⟨va, vc, hva, _, _⟩ := h.way.shape
  rw [hN] at hva
  subst hva
  have l1 : ¬ (r.len : Int) = 0 := by omega
  have l2 : decide ((r.len : Int) = 0) = false := by simp; omega
  have l3 : decide (r.len = 0) = false := by simp; omega
  have l4 : ¬ r.len = 0 := by omega
  have l5 : ((r.len : Int) == 0) = false := by simp; omega
  have d1 : decide ((1099511627775 : Int) < (delay : Int)) = false := by simp; omega
  have d2 : decide (1099511627775 < delay) = false := by simp; omega
  have n1 : decide ((1099511627775 : Int) < (now : Int)) = false := by simp; omega
  have n2 : decide (1099511627775 < now) = false := by simp; omega
  have m1 : decide ((now : Int) < (s.now : Int)) = false := by simp; omega
  have m2 : decide (now < s.now) = false := by simp; omega
  have hla : r.a = some ⟨r.g, r.off, none⟩ := hr.at_ h1
  have hgl := hr.lt h1
  obtain ⟨n9, hn9⟩ : ∃ n9, r.len = n9 + 1 := ⟨r.len - 1, by omega⟩
  have hls : lastOf r.l = (gr r.l n9).2 := by unfold lastOf; rw [hr.hb, hn9]; rfl
  have w9 : IntKind.i64.wrap ((r.len : Int) - 1) = (n9 : Int) := by rw [IntKind.wrap_i64]; omega
  have n3 : decide ((n9 : Int) < (r.len : Int)) = true := by simp; omega
  have n4 : n9 < r.len := by omega
  have n5 : (n9 : Int) < (r.len : Int) := by omega
  have PF := veil (show ¬ s.last < (gr r.l n9).2 by rw [hls] at h6; omega)
  have HRS := veil h0
  have CC := veil (ref_check8 r w hr)
  have H0 := veil h0
  have HH := veil h
  have HR := veil hr
  have HSEP := veil (hsep h1)
  have HGL := veil hgl
  have HC2 := veil (hr.cell n9 n4).2
  have HA := veil h5
  have HL := veil hl
  have HE := veil (show Lg.endOf r.l = (gr r.l n9).2 by rw [← last_end, hls])
  have HF := veil hf
  have HC := veil hc
  have HN := veil hN
  have HNO := veil (show now ≤ 1099511627775 ∧ s.now ≤ now from ⟨h3, h4⟩)
  have HDE := veil h2
  clear hls h0 hr h1 h2 h3 h4 h hl h5 hn9 hgl h6 hf hc hN hsep
  obtain ⟨ra, rlen, rcap, rg, roff, rl0⟩ := r
  simp only at hla hrl
  subst hla
  symm at hrl
  subst hrl
  simp only at *
  obtain ⟨en, hen⟩ : ∃ en, (gr rl n9).2 = en := ⟨_, rfl⟩
  rw [hen] at HC2 HE PF
  have p1 : decide ((s.last : Int) < (en : Int)) = false := by have := PF.out; simp; omega
  have p2 : decide (s.last < en) = false := by have := PF.out; simp; omega
  clear hen PF
  go_enter Tryz.func11, Tryz.ntmps11
  go_wp2_with fail
  refine CC.out.mono ?_
  rintro e2 w2 ⟨hc, hb2⟩
  have he2 : e2 = .returned (.bool true) := hc.elim (fun q => q.1) (fun q => absurd H0.out q.2)
  subst he2
  clear hc CC
  have h2 := HH.out.below hb2
  have c4 := h2.cells.c4
  have f4 := h2.cells.f 4
  have c1 := h2.cells.c1
  rw [HA.out] at c1
  have c2 := h2.cells.c2
  have cl9 := (hb2.cell (p := ⟨rg, roff + n9 * 2 + 1, none⟩) HGL.out).trans HC2.out
  have hgw : g < w.heap.size := HH.out.lt
  obtain ⟨w3, hw3⟩ : ∃ w3, w3 = w2.setCell ⟨g, 4, none⟩ (.int .u64 (now : Int)) := ⟨_, rfl⟩
  have hk3 : KeepP (fun k => k = g) w w3 := by rw [hw3]; exact (KeepP.of_below hb2).trans (keepG g _ _ _)
  have HK3 := veil hk3
  have row3 : Row w3 g 74 (rdC (.slice va N vc) { s with now := now }) := by rw [hw3]; exact h2.row.set 4 _
  have HRD := veil (show ∀ W, Below w.heap.size w3 W → RdOk W g (.slice va N vc) { s with now := now } from fun W hW => ⟨(hW.block g hgw).trans row3, HH.out.way.same (fun k hk => (hW.block k (HH.out.way.lt k hk)).trans (hk3.block k (HH.out.way.lt k hk) (fun q => HH.out.apart (by rw [← q]; exact hk))))⟩)
  have HRK := veil (show ∀ W, Below w.heap.size w3 W → RL.Ok W ⟨some ⟨rg, roff, none⟩, rlen, rcap, rg, roff, rl⟩ from fun W hW => HR.out.same (fun p => (hW.block rg HGL.out).trans (hk3.block rg HGL.out HSEP.out)) (Nat.le_trans hk3.size hW.size))
  have HGW := veil hgw
  have hz3 : w.heap.size ≤ w3.heap.size := hk3.size
  have HZ3 := veil hz3
  clear hb2 h2 hk3 row3 hz3 hgw HH HR HGL HC2 HSEP
  subst hw3
  go_wp2_with fail
  generalize w2.setCell ⟨g, 4, none⟩ (.int .u64 (now : Int)) = w3 at *
  clear c4 f4 c1 c2 cl9
  go_loopw [12, 13, 14, 15, 16] (fun gv hv rv av iv wr => ∃ (k : Nat) (g1 q1 r1 : Value), k ≤ N ∧ iv = .int .i64 k ∧ gv = g1 ∧ hv = q1 ∧ rv = r1 ∧ av = .bool (Lg.asksB (Lg.hitTo s rl k)) ∧ AnsK w.heap.size w3 ((Lg.hitTo s rl k).map (·.num)) (Lg.hitTo s rl k) (Lg.missTo s rl k) g1 q1 r1 wr)
    (fun _ _ _ _ iv _ => N - (intOf iv).toNat)
  case atStart => exact ⟨0, _, _, _, Nat.zero_le _, rfl, rfl, rfl, rfl, rfl, AnsK.nil HZ3.out⟩
  case round =>
    obtain ⟨k, g1, q1, r1, hk, rfl, hg1, hq1, hr1, rfl, hK⟩ := hrel
    symm at hg1 hq1 hr1
    subst hg1 hq1 hr1
    have hrd := HRD.out wr hK.bel
    have c0 := hrd.cells.c0
    by_cases hlt : k < N
    · obtain ⟨p, hget⟩ : ∃ p, s.way[k]? = some p := ⟨_, List.getElem?_eq_getElem (by rw [HN.out]; exact hlt)⟩
      have hway := hrd.way
      rw [show ({ s with now := now } : Lg.Led).way.length = N from HN.out] at hway
      obtain ⟨gb, oo, rfl, _, x0, x1, x2, x3⟩ := way_at hway hget
      have ALL := veil (show ∀ W, Below w.heap.size w3 W → W.cell? ⟨g, 0, none⟩ = some (.slice (some ⟨gb, oo, none⟩) N vc) ∧ W.cell? ⟨gb, oo + k * 4, none⟩ = some (.int .u64 (p.num : Int)) ∧ W.cell? ⟨gb, oo + k * 4 + 1, none⟩ = some (.int .i64 (p.size : Int)) ∧ W.cell? ⟨gb, oo + k * 4 + 2, none⟩ = some (.int .u64 (p.time : Int)) ∧ W.cell? ⟨gb, oo + k * 4 + 3, none⟩ = some (.bool p.asks) from fun W hW => by
        have hrd2 := HRD.out W hW
        have hway2 := hrd2.way
        rw [show ({ s with now := now } : Lg.Led).way.length = N from HN.out] at hway2
        obtain ⟨gb2, oo2, e2, _, y0, y1, y2, y3⟩ := way_at hway2 hget
        injection e2 with e2
        injection e2 with e2 e3
        subst e2 e3
        exact ⟨hrd2.cells.c0, y0, y1, y2, y3⟩)
      have dd : decide ((k : Int) < (N : Int)) = true := by simp; omega
      have dn : decide (k < N) = true := by simp; omega
      have bI : (k : Int) < (N : Int) := by omega
      have HLt := veil hlt
      have hsl : s.way.length ≤ 2000 := by rw [HN.out]; exact hN2
      have HSL := veil hsl
      have HAS := veil (ref_has8 _ p.num wr (HRK.out wr hK.bel) HL.out)
      simp only at HAS
      have HK := veil hK
      have HGET := veil hget
      clear hrd hway hK hget hsl
      cases hhas : Rg.hasL rl p.num
      · rw [hhas] at HAS
        have HT1 := veil (Lg.hitTo_no HGET.out hhas).1
        have HT2 := veil (Lg.hitTo_no HGET.out hhas).2
        clear hhas
        go_wp2_with fail
        refine HAS.out.mono ?_
        rintro e4 w4 ⟨rfl, hb4⟩
        have hK4 := HK.out.below hb4
        obtain ⟨d0, y0, y1, y2, y3⟩ := ALL.out w4 hK4.bel
        obtain ⟨v6, w6, q6, hK6⟩ := hK4.addRest p (Nat.le_trans (Lg.missTo_len s rl k) HSL.out) 72
        unfold pkC at q6
        have Q6 := veil q6
        have HK6 := veil hK6
        clear hK4 q6 hK6 hb4 x0 x1 x2 x3 c0 HK
        go_wp2_with (with_reducible (show wpList _ _ _ (⟨some 128, Op.call _, _, _, _, _⟩ :: _) _ _)
                     refine wpL_append rfl _ _ _ rfl _ _ _ _ rfl rfl Q6.out ?_)
        go_roundw
        case rel => exact ⟨k + 1, _, _, _, by have := HLt.out; omega, by go_num, rfl, rfl, rfl, by rw [HT1.out], by rw [HT1.out, HT2.out]; exact HK6.out⟩
        case measure => have := HLt.out; simp [intOf]; omega
      · rw [hhas] at HAS
        have HT1 := veil (Lg.hitTo_yes HGET.out hhas).1
        have HT2 := veil (Lg.hitTo_yes HGET.out hhas).2
        clear hhas
        cases haq : Lg.asksB (Lg.hitTo s rl k)
        · have HAQ := veil (show Lg.asksB (Lg.hitTo s rl (k + 1)) = p.asks by rw [HT1.out, Lg.asks_append, haq]; rfl)
          clear haq
          go_wp2_with fail
          refine HAS.out.mono ?_
          rintro e4 w4 ⟨rfl, hb4⟩
          have hK4 := HK.out.below hb4
          obtain ⟨d0, y0, y1, y2, y3⟩ := ALL.out w4 hK4.bel
          obtain ⟨v5, w5, q5, hK5⟩ := hK4.addGot p.num (by rw [List.length_map]; exact Nat.le_trans (Lg.hitTo_len s rl k) HSL.out) 49
          obtain ⟨d05, y05, y15, y25, y35⟩ := ALL.out w5 hK5.bel
          obtain ⟨v6, w6, q6, hK6⟩ := hK5.addHit p (Nat.le_trans (Lg.hitTo_len s rl k) HSL.out) 72
          obtain ⟨d06, y06, y16, y26, y36⟩ := ALL.out w6 hK6.bel
          unfold pkC at q6
          have Q5 := veil q5
          have Q6 := veil q6
          have HK6 := veil hK6
          clear hK4 q5 hK5 q6 hK6 hb4 x0 x1 x2 x3 c0 HK
          go_wp2_with (first
            | (with_reducible (show wpList _ _ _ (⟨some 97, Op.call _, _, _, _, _⟩ :: _) _ _)
               refine wpL_append rfl _ _ _ rfl _ _ _ _ rfl rfl Q5.out ?_)
            | (with_reducible (show wpList _ _ _ (⟨some 107, Op.call _, _, _, _, _⟩ :: _) _ _)
               refine wpL_append rfl _ _ _ rfl _ _ _ _ rfl rfl Q6.out ?_))
          go_roundw
          case rel => exact ⟨k + 1, _, _, _, by have := HLt.out; omega, by go_num, rfl, rfl, rfl, by rw [HAQ.out], by rw [HT1.out, HT2.out, List.map_append]; exact HK6.out⟩
          case measure => have := HLt.out; simp [intOf]; omega
        · have HAQ := veil (show Lg.asksB (Lg.hitTo s rl (k + 1)) = true by rw [HT1.out, Lg.asks_append, haq]; rfl)
          clear haq
          go_wp2_with fail
          refine HAS.out.mono ?_
          rintro e4 w4 ⟨rfl, hb4⟩
          have hK4 := HK.out.below hb4
          obtain ⟨d0, y0, y1, y2, y3⟩ := ALL.out w4 hK4.bel
          obtain ⟨v5, w5, q5, hK5⟩ := hK4.addGot p.num (by rw [List.length_map]; exact Nat.le_trans (Lg.hitTo_len s rl k) HSL.out) 49
          obtain ⟨d05, y05, y15, y25, y35⟩ := ALL.out w5 hK5.bel
          obtain ⟨v6, w6, q6, hK6⟩ := hK5.addHit p (Nat.le_trans (Lg.hitTo_len s rl k) HSL.out) 72
          obtain ⟨d06, y06, y16, y26, y36⟩ := ALL.out w6 hK6.bel
          unfold pkC at q6
          have Q5 := veil q5
          have Q6 := veil q6
          have HK6 := veil hK6
          clear hK4 q5 hK5 q6 hK6 hb4 x0 x1 x2 x3 c0 HK
          go_wp2_with (first
            | (with_reducible (show wpList _ _ _ (⟨some 97, Op.call _, _, _, _, _⟩ :: _) _ _)
               refine wpL_append rfl _ _ _ rfl _ _ _ _ rfl rfl Q5.out ?_)
            | (with_reducible (show wpList _ _ _ (⟨some 107, Op.call _, _, _, _, _⟩ :: _) _ _)
               refine wpL_append rfl _ _ _ rfl _ _ _ _ rfl rfl Q6.out ?_))
          go_roundw
          case rel => exact ⟨k + 1, _, _, _, by have := HLt.out; omega, by go_num, rfl, rfl, rfl, by rw [HAQ.out], by rw [HT1.out, HT2.out, List.map_append]; exact HK6.out⟩
          case measure => have := HLt.out; simp [intOf]; omega
    · obtain rfl : k = N := by omega
      have hAll := Lg.hitTo_all s rl
      rw [HN.out] at hAll
      have HAL1 := veil hAll.1
      have HAL2 := veil hAll.2
      have dd : decide ((k : Int) < (k : Int)) = false := by simp
      have dn : decide (k < k) = false := by simp
      rw [hAll.1, hAll.2] at hK
      have ho := hK.got
      rw [List.length_map] at ho
      obtain ⟨ga, gc, hgs⟩ := own_shape15 ho
      obtain ⟨n, hn⟩ : ∃ n, (Lg.hitL s rl).length = n := ⟨_, rfl⟩
      rw [hn] at hgs ho
      subst hgs
      have HNN := veil hn
      have HKW := veil (keep_of HK3.out hK.bel)
      rcases Nat.eq_zero_or_pos n with e0 | e0
      · have HNIL := veil (List.eq_nil_of_length_eq_zero (hn.trans e0))
        have l6 : (n : Int) = 0 := by omega
        have l7 : decide ((n : Int) = 0) = true := by simp; omega
        have l8 : decide (n = 0) = true := by simp; omega
        have l9 : ((n : Int) == 0) = true := by simp; omega
        have HRW := veil hrd
        clear hK ho hn hAll e0 hrd hlt hk
        go_wp2
        refine bodyPost_ret (results_tmp3 rfl _ _ _) rfl ?_
        obtain ⟨rfl, rfl⟩ : L = [] ∧ S' = { s with now := now } := HCS.out.elim (fun q => q.2) (fun q => absurd HNIL.out q.1)
        exact ⟨_, _, _, rfl, by rw [HNIL.out]; exact World.ownsRow_nil _ _ _ _, World.ownsRow_nil _ _ _ _, HRW.out, HKW.out, fun q hq => .inl hq⟩
      · have HNE := veil (show ¬ Lg.hitL s rl = [] from fun q => by rw [q] at hn; simp at hn; omega)
        obtain ⟨n1, hn1⟩ : ∃ n1, n = n1 + 1 := ⟨n - 1, by omega⟩
        obtain ⟨top, htop⟩ : ∃ top, (Lg.hitL s rl)[n1]? = some top := ⟨_, List.getElem?_eq_getElem (by omega)⟩
        have htl : (Lg.hitL s rl).getLast?.getD ⟨0, 0, 0, false⟩ = top := by rw [List.getLast?_eq_getElem?, hn, hn1, Nat.add_sub_cancel, htop]; rfl
        have l6 : ¬ (n : Int) = 0 := by omega
        have l7 : decide ((n : Int) = 0) = false := by simp; omega
        have l8 : decide (n = 0) = false := by simp; omega
        have l9 : ((n : Int) == 0) = false := by simp; omega
        have w8 : IntKind.i64.wrap ((n : Int) - 1) = (n1 : Int) := by have := Lg.hitTo_len s rl k; rw [HAL1.out, hn, HN.out] at this; rw [IntKind.wrap_i64]; omega
        have b8 : decide ((n1 : Int) < (n : Int)) = true := by simp; omega
        have b7 : (n1 : Int) < (n : Int) := by omega
        have b6 : n1 < n := by omega
        obtain ⟨ha, hcap, hhs⟩ := own_shape15 hK.hit
        rw [hn] at hhs
        obtain ⟨rra, rrc, hrs⟩ := own_shape15 hK.rest
        obtain ⟨rn, hrn⟩ : ∃ rn, (s.way.filter fun p => !Rg.hasL rl p.num).length = rn := ⟨_, rfl⟩
        rw [hrn] at hrs
        have f0 := hrd.cells.f 0
        obtain ⟨W2, hW2⟩ : ∃ W2, W2 = wr.setCell ⟨g, 0, none⟩ r1 := ⟨_, rfl⟩
        have hk2 : KeepP (fun q => q = g) wr W2 := by rw [hW2]; exact keepG g _ _ _
        have own_g : ∀ {e z u m xs W0 W1}, World.ownsRow W0 w.heap.size e z u m xs → KeepP (fun q => q = g) W0 W1 → World.ownsRow W1 w.heap.size e z u m xs := by
          intro e z u m xs W0 W1 hx hkk
          obtain ⟨j1, j2⟩ := hx
          refine ⟨j1, ?_⟩
          rcases j2 with j2 | ⟨g', c', cur, j3, j4, j5, j6⟩
          · exact .inl j2
          · exact .inr ⟨g', c', cur, j3, j4, (hkk.block g' (Array.getElem?_eq_some_iff.1 j5).1 (fun q => by have := HGW.out; omega)).trans j5, j6⟩
        have row2 : Row W2 g 74 (rdC r1 (Lg.atS s rl now)) := by rw [hW2]; exact hrd.row.set 0 _
        have hit2 := RowO.of_own (own_g hK.hit hk2)
        rw [hhs, hn] at hit2
        obtain ⟨hb, ho9, hha, _, y0, y1, y2, y3⟩ := way_at hit2 htop
        have HIT := veil (show ∀ W, KeepP (fun q => q = g) wr W → RowO W 80 4 q1 n (vp (Lg.hitL s rl)) from fun W hW => by have := RowO.of_own (own_g hK.hit hW); rw [hn] at this; exact this)
        have RST := veil (show ∀ W, KeepP (fun q => q = g) wr W → RowO W 80 4 r1 rn (vp (s.way.filter fun p => !Rg.hasL rl p.num)) from fun W hW => by have := RowO.of_own (own_g hK.rest hW); rw [hrn] at this; exact this)
        have GOT := veil (show ∀ W, KeepP (fun q => q = g) wr W → W.ownsRow w.heap.size 23 1 (.slice ga n gc) n (vnum ((Lg.hitL s rl).map (·.num))) from fun W hW => own_g ho hW)
        have hb3 := (Below.refl W2.heap.size W2).alloc (Nat.le_refl _) (.cells (pkC top) 80)
        have row3 := row2.below hb3 row2.lt
        have hk23 : KeepP (fun q => q = g) wr (W2.alloc (.cells (pkC top) 80)) := hk2.trans (KeepP.of_below hb3)
        have rtop : Row (W2.alloc (.cells (pkC top) 80)) W2.heap.size 80 (pkC top) := Row.new _ _ _
        have hz2 : W2.heap.size = wr.heap.size := by rw [hW2]; simp [World.setCell]
        have htm : top ∈ s.way := (List.mem_filter.1 (List.mem_of_getElem? htop)).1
        have HTM := veil htm
        have HTL := veil htl
        have HTOP := veil htop
        have HRN := veil hrn
        have HBEL := veil hK.bel
        rw [hz2] at rtop
        rw [hW2] at row3 hk23 rtop y0 y1 y2 y3
        have RTOP := veil rtop
        have ROW3 := veil row3
        have HK23 := veil hk23
        clear row3 hk23 rtop hb3 hit2 row2 hk2 hz2 hK ho hn hrn hrd htm htl htop hAll hn1 e0 hlt hk own_g
        subst hW2
        unfold pkC at RTOP ROW3 HK23
        subst hhs hrs
        subst hha
        obtain ⟨aq, haq⟩ : ∃ aq, Lg.asksB (Lg.hitTo s rl k) = aq := ⟨_, rfl⟩
        rw [haq]
        rw [HAL1.out] at haq
        go_wp2_with fail
        obtain ⟨W3, hW3⟩ : ∃ W3, W3 = (wr.setCell ⟨g, 0, none⟩ (.slice rra rn rrc)).alloc (.cells #[.int .u64 (top.num : Int), .int .i64 (top.size : Int), .int .u64 (top.time : Int), .bool top.asks] 80) := ⟨_, rfl⟩
        rw [← hW3] at RTOP ROW3 HK23
        rw [← hW3]
        clear hW3 y0 y1 y2 y3 f0 c0
        have t0c : W3.cell? ⟨wr.heap.size, 0, none⟩ = some (.int .u64 (top.num : Int)) := RTOP.out.cell 0
        have c5 : W3.cell? ⟨g, 5, none⟩ = some (.int .u64 (s.front : Int)) := (rd_cells ROW3.out).c5
        have c6 : W3.cell? ⟨g, 6, none⟩ = some (.bool s.fronted) := (rd_cells ROW3.out).c6
        obtain ⟨bf, hbf⟩ : ∃ bf, (!s.fronted || decide (s.front < top.num)) = bf := ⟨_, rfl⟩
        go_cut [155] from 142 to 163 (fun cv wx => cv = .bool bf ∧ ∃ m, wx = W3.drewN m)
        case first =>
          cases hfr : s.fronted
          · rw [hfr] at c6
            have HBF := veil (show bf = true by rw [← hbf, hfr]; rfl)
            go_quiet (fail)
            go_wp2
            go_meet
            case rel => exact ⟨by rw [HBF.out], _, rfl⟩
          · rw [hfr] at c6
            by_cases hgt : s.front < top.num
            · have d1 : decide ((s.front : Int) < (top.num : Int)) = true := by simp; omega
              have d2 : decide (s.front < top.num) = true := by simp; omega
              have HBF := veil (show bf = true by rw [← hbf, d2, Bool.or_true])
              go_quiet (fail)
              go_wp2
              go_meet
              case rel => exact ⟨by rw [HBF.out], _, rfl⟩
            · have d1 : decide ((s.front : Int) < (top.num : Int)) = false := by simp; omega
              have d2 : decide (s.front < top.num) = false := by simp; omega
              have HBF := veil (show bf = false by rw [← hbf, d2, hfr]; rfl)
              go_quiet (fail)
              go_wp2
              go_meet
              case rel => exact ⟨by rw [HBF.out], _, rfl⟩
        case rest =>
          obtain ⟨rfl, mq, rfl⟩ := hcut
          have hne : wr.heap.size ≠ g := fun q => by have := HBEL.out.size; have := HZ3.out; have := HGW.out; omega
          have HNEG := veil hne
          obtain ⟨s2, hs2⟩ : ∃ s2, Lg.frontS (Lg.atS s rl now) top.num = s2 := ⟨_, rfl⟩
          have f5 := (rd_cells ROW3.out).f 5
          have f6 := (rd_cells ROW3.out).f 6
          have tt : ((W3.drewN mq).setCell ⟨g, 6, none⟩ (.bool true)).cell? ⟨wr.heap.size, 0, none⟩ = some (.int .u64 (top.num : Int)) := (World.cell?_of_block (a := ⟨wr.heap.size, 0, none⟩) (Below.heap_setCell _ _ _ _ hne)).trans t0c
          have hkd : KeepP (fun q => q = g) W3 (W3.drewN mq) := KeepP.of_below (below_drewN (Below.refl _ _) _)
          go_upto_if 155 with fail
          go_cut [] from 142 to 163 (fun wx => Row wx g 74 (rdC (.slice rra rn rrc) s2) ∧ KeepP (fun q => q = g) W3 wx)
          case first =>
            cases bf
            · go_wp2
              go_meet
              case rel => exact ⟨by rw [← hs2, front_no (s := Lg.atS s rl now) hbf]; exact ROW3.out, hkd⟩
            · go_wp2
              go_meet
              case rel => exact ⟨by rw [← hs2, front_yes (s := Lg.atS s rl now) hbf]; exact ((show Row (W3.drewN mq) g 74 _ from ROW3.out).set 6 _).set 5 _, (hkd.trans (keepG g _ _ _)).trans (keepG g _ _ _)⟩
          case rest =>
            obtain ⟨row4, hk4⟩ := hcut
            generalize wc = W4 at *
            have HF1 := veil ((HF.out.atS rl HNO.out.1 HNO.out.2).frontS (n := top.num) (Nat.le_trans (HF.out.num top HTM.out).2 HF.out.last))
            rw [hs2] at HF1
            have HS2 := veil hs2
            have HK4 := veil hk4
            have ROW4 := veil row4
            have t0d : W4.cell? ⟨wr.heap.size, 0, none⟩ = some (.int .u64 (top.num : Int)) := (hk4.row RTOP.out hne).cell 0
            have t2d : W4.cell? ⟨wr.heap.size, 2, none⟩ = some (.int .u64 (top.time : Int)) := (hk4.row RTOP.out hne).cell 2
            clear hs2 hk4 row4 tt hkd f5 f6 c5 c6 t0c hbf
            obtain ⟨bm, hbm⟩ : ∃ bm, (decide (top.num = en) && aq) = bm := ⟨_, rfl⟩
            go_upto_region 25 with fail
            go_cut [170] from 164 to 177 (fun cv wx => cv = .bool bm ∧ wx = W4)
            case first =>
              by_cases he : top.num = en
              · have e1 : decide ((top.num : Int) = (en : Int)) = true := by simp; omega
                have e2 : decide (top.num = en) = true := by simp; omega
                have e3 : ((top.num : Int) == (en : Int)) = true := by simp; omega
                have e4 : (top.num : Int) = (en : Int) := by omega
                have HBM := veil (show bm = aq by rw [← hbm, e2]; rfl)
                clear hbm
                go_wp2
                go_meet
                case rel => exact ⟨by rw [HBM.out], rfl⟩
              · have e1 : decide ((top.num : Int) = (en : Int)) = false := by simp; omega
                have e2 : decide (top.num = en) = false := by simp; omega
                have e3 : ((top.num : Int) == (en : Int)) = false := by simp; omega
                have e4 : ¬ (top.num : Int) = (en : Int) := by omega
                have HBM := veil (show bm = false by rw [← hbm, e2]; rfl)
                clear hbm
                go_wp2
                go_meet
                case rel => exact ⟨by rw [HBM.out], rfl⟩
            case rest =>
              obtain ⟨rfl, hwc⟩ := hcut
              symm at hwc
              subst hwc
              obtain ⟨tk, htk⟩ : ∃ tk, now - top.time = tk := ⟨_, rfl⟩
              have htt : top.time ≤ now := Nat.le_trans (HF.out.time top HTM.out) HNO.out.2
              have htk2 : tk ≤ 1099511627775 := by have := HNO.out.1; omega
              have e5 : IntKind.u64.wrap ((now : Int) - (top.time : Int)) = (tk : Int) := by have := HNO.out.1; rw [IntKind.wrap_u64]; omega
              obtain ⟨s3, hs3⟩ : ∃ s3, Lg.measS s2 top.num en aq tk delay = s3 := ⟨_, rfl⟩
              have HF3 := veil (HF1.out.measS top.num en aq (took := tk) (delay := delay) htk2)
              rw [hs3] at HF3
              have HMC := veil (refMeas_any g (.slice rra rn rrc) s2 tk delay W4 ROW4.out HF1.out.smo HF1.out.var HF1.out.lea htk2 HDE.out)
              have HS3 := veil hs3
              have HTK := veil htk
              have hm1 : bm = true → s3 = Lg.measure s2 tk delay := fun q => by
                rw [← hs3]; unfold Lg.measS; rw [q, Bool.and_eq_true, decide_eq_true_eq] at hbm; rw [if_pos hbm]
              have hm0 : bm = false → s3 = s2 := fun q => by
                rw [← hs3]; unfold Lg.measS; rw [if_neg]; rintro ⟨q1, q2⟩; rw [q1, q2, q] at hbm; simp at hbm
              have HM1 := veil hm1
              have HM0 := veil hm0
              clear hm1 hm0 hs3 htk htt htk2 hbm
              go_upto_if 170 with fail
              go_cut [] from 164 to 177 (fun wx => Row wx g 74 (rdC (.slice rra rn rrc) s3) ∧ KeepP (fun q => q = g) W3 wx)
              case first =>
                cases bm
                · go_wp2
                  go_meet
                  case rel => exact ⟨by rw [HM0.out (by simp)]; exact ROW4.out, HK4.out⟩
                · go_wp2_with fail
                  refine HMC.out.mono ?_
                  rintro e6 w6 ⟨⟨u6, rfl⟩, hr6, hk6⟩
                  go_wp2
                  go_meet
                  case rel => exact ⟨by rw [HM1.out (by simp)]; exact hr6, HK4.out.trans hk6⟩
              case rest =>
                obtain ⟨row5, hk5⟩ := hcut
                generalize wc = W5 at *
                obtain ⟨Hh, hHh⟩ : ∃ Hh, Lg.hitL s rl = Hh := ⟨_, rfl⟩
                have hhl : ∀ p ∈ Hh, p.size ≤ 1200 ∧ p.time ≤ 1099511627775 := fun p hp => by
                  rw [← hHh] at hp
                  have hp2 := (List.mem_filter.1 hp).1
                  exact ⟨(HF.out.size p hp2).2, Nat.le_trans (HF.out.time p hp2) HF.out.now⟩
                have HHL := veil hhl
                have HHH := veil hHh
                have HWIN := veil (show s3.win ≤ 12000 + 1200 * c ∧ n ≤ c from by
                  have h1 := HF3.out.winU
                  have h2 : (Lg.hitL s rl).length ≤ c := Nat.le_trans (List.length_filter_le _ _) HF.out.cnt
                  rw [HNN.out] at h2
                  exact ⟨by omega, h2⟩)
                have HST := veil (show Lg.struck s rl delay now = Lg.winTo s3 Hh n by rw [Lg.struck_steps s rl delay now HTL.out, ← HS3.out, ← HS2.out, HTK.out, HE.out, ← hHh, HNN.out, haq])
                have ROW5 := veil row5
                have HK5 := veil hk5
                clear row5 hk5 hhl hHh t0d t2d e5
                go_wp2_with fail
                obtain ⟨WR, hWR⟩ : ∃ WR, WR = wr := ⟨_, rfl⟩
                subst hWR
                go_loopw [18] (fun iv wq => ∃ j : Nat, j ≤ n ∧ iv = .int .i64 j ∧ Row wq g 74 (rdC (.slice rra rn rrc) (Lg.winTo s3 Hh j)) ∧ KeepP (fun q => q = g) W3 wq)
                  (fun iv _ => n - (intOf iv).toNat)
                case atStart => exact ⟨0, Nat.zero_le _, rfl, ROW5.out, HK5.out⟩
                case round =>
                  obtain ⟨j, hj, rfl, hrow, hkp⟩ := hrel
                  by_cases hjn : j < n
                  · obtain ⟨p, hget⟩ : ∃ p, Hh[j]? = some p := ⟨_, List.getElem?_eq_getElem (by rw [← HHH.out, HNN.out]; exact hjn)⟩
                    have hitq := HIT.out wr (HK23.out.trans hkp)
                    rw [HHH.out] at hitq
                    obtain ⟨hb2, ho2, e2, _, z0, z1, z2, z3⟩ := way_at hitq hget
                    injection e2 with e2
                    injection e2 with e2 e3
                    subst e2 e3
                    have hb6 := (Below.refl wr.heap.size wr).alloc (Nat.le_refl _) (.cells #[.int .u64 (p.num : Int), .int .i64 (p.size : Int), .int .u64 (p.time : Int), .bool p.asks] 80)
                    have row6 := hrow.below hb6 hrow.lt
                    have ROW6 := veil row6
                    have HK6 := veil (hkp.trans (KeepP.of_below hb6))
                    obtain ⟨wn, hwn⟩ : ∃ wn, (Lg.winTo s3 Hh j).win = wn := ⟨_, rfl⟩
                    have hlo : 2400 ≤ wn := by rw [← hwn]; exact Lg.winTo_low HF3.out Hh j
                    have hup : wn ≤ 12000 + 1200 * 4000 := by
                      have h1 := Lg.winTo_up HF3.out (l := Hh) (fun p hp => (HHL.out p hp).1) j
                      have h2 := HWIN.out
                      have h3 : Hh.length = n := by rw [← HHH.out]; exact HNN.out
                      have h4 := HC.out
                      rw [hwn, h3] at h1
                      omega
                    have c12 : (wr.alloc (.cells #[.int .u64 (p.num : Int), .int .i64 (p.size : Int), .int .u64 (p.time : Int), .bool p.asks] 80)).cell? ⟨g, 12, none⟩ = some (.int .i64 (wn : Int)) := by rw [← hwn]; exact (rd_cells row6).c12
                    have c13 : (wr.alloc (.cells #[.int .u64 (p.num : Int), .int .i64 (p.size : Int), .int .u64 (p.time : Int), .bool p.asks] 80)).cell? ⟨g, 13, none⟩ = some (.int .i64 s3.thr) := (rd_cells row6).c13
                    have c14 : (wr.alloc (.cells #[.int .u64 (p.num : Int), .int .i64 (p.size : Int), .int .u64 (p.time : Int), .bool p.asks] 80)).cell? ⟨g, 14, none⟩ = some (.int .u64 (s3.moment : Int)) := (rd_cells row6).c14
                    have c15 : (wr.alloc (.cells #[.int .u64 (p.num : Int), .int .i64 (p.size : Int), .int .u64 (p.time : Int), .bool p.asks] 80)).cell? ⟨g, 15, none⟩ = some (.bool s3.moments) := (rd_cells row6).c15
                    have f12 := (rd_cells row6).f 12
                    obtain ⟨hpz, hpt⟩ := HHL.out p (List.mem_of_getElem? hget)
                    have hsu := Lg.winTo_succ s3 hget
                    rw [hwn] at hsu
                    have HSU := veil hsu
                    have HWN := veil hwn
                    have HJN := veil hjn
                    have dj : decide ((j : Int) < (n : Int)) = true := by simp; omega
                    have dk : decide (j < n) = true := by simp; omega
                    have bj : (j : Int) < (n : Int) := by omega
                    clear hsu hwn hget hitq hrow hkp hb6 row6
                    have hn2k : n ≤ 2000 := Nat.le_trans HWIN.out.2 HC.out
                    have rp6 : Row (wr.alloc (.cells #[.int .u64 (p.num : Int), .int .i64 (p.size : Int), .int .u64 (p.time : Int), .bool p.asks] 80)) wr.heap.size 80 #[.int .u64 (p.num : Int), .int .i64 (p.size : Int), .int .u64 (p.time : Int), .bool p.asks] := Row.new _ _ _
                    have a1 := rp6.cell 1
                    have a2 := rp6.cell 2
                    have a3 := rp6.cell 3
                    clear rp6
                    go_upto_region 31 with fail
                    obtain ⟨V6, hV6⟩ : ∃ V6, V6 = (wr.alloc (.cells #[.int .u64 (p.num : Int), .int .i64 (p.size : Int), .int .u64 (p.time : Int), .bool p.asks] 80)) := ⟨_, rfl⟩
                    rw [← hV6] at ROW6 HK6 c12 c13 c14 c15 f12 a1 a2 a3
                    rw [← hV6]
                    clear hV6 z0 z1 z2 z3
                    have a1 : V6.cell? ⟨wr.heap.size, 1, none⟩ = some (.int .i64 (p.size : Int)) := a1
                    have a2 : V6.cell? ⟨wr.heap.size, 2, none⟩ = some (.int .u64 (p.time : Int)) := a2
                    have a3 : V6.cell? ⟨wr.heap.size, 3, none⟩ = some (.bool p.asks) := a3
                    obtain ⟨bs, hbs⟩ : ∃ bs, (!p.asks || (s3.moments && decide (p.time ≤ s3.moment))) = bs := ⟨_, rfl⟩
                    go_cut [205] from 178 to 247 (fun cv wx => cv = .bool bs ∧ ∃ m, wx = V6.drewN m)
                    case first =>
                      cases hpa : p.asks
                      · rw [hpa] at a3
                        have HBS := veil (show bs = true by rw [← hbs, hpa]; rfl)
                        go_quiet (fail)
                        go_wp2
                        go_meet
                        case rel => exact ⟨by rw [HBS.out], _, rfl⟩
                      · rw [hpa] at a3
                        cases hmo : s3.moments
                        · rw [hmo] at c15
                          have HBS := veil (show bs = false by rw [← hbs, hpa, hmo]; rfl)
                          go_quiet (fail)
                          go_wp2
                          go_meet
                          case rel => exact ⟨by rw [HBS.out], _, rfl⟩
                        · rw [hmo] at c15
                          by_cases hti : p.time ≤ s3.moment
                          · have d3 : decide ((p.time : Int) ≤ (s3.moment : Int)) = true := by simp; omega
                            have d4 : decide (p.time ≤ s3.moment) = true := by simp; omega
                            have HBS := veil (show bs = true by rw [← hbs, hpa, hmo, d4]; rfl)
                            go_quiet (fail)
                            go_wp2
                            go_meet
                            case rel => exact ⟨by rw [HBS.out], _, rfl⟩
                          · have d3 : decide ((p.time : Int) ≤ (s3.moment : Int)) = false := by simp; omega
                            have d4 : decide (p.time ≤ s3.moment) = false := by simp; omega
                            have HBS := veil (show bs = false by rw [← hbs, hpa, hmo, d4]; rfl)
                            go_quiet (fail)
                            go_wp2
                            go_meet
                            case rel => exact ⟨by rw [HBS.out], _, rfl⟩
                    case rest =>
                      obtain ⟨rfl, m6, hwc⟩ := hcut
                      have HK7 := veil (show KeepP (fun q => q = g) W3 wc by rw [hwc]; exact HK6.out.trans (KeepP.of_below (below_drewN (Below.refl _ _) _)))
                      have ROW7 := veil (show Row wc g 74 (rdC (.slice rra rn rrc) (Lg.winTo s3 Hh j)) by rw [hwc]; exact ROW6.out)
                      have b12 : wc.cell? ⟨g, 12, none⟩ = some (.int .i64 (wn : Int)) := by rw [hwc]; exact c12
                      have b13 : wc.cell? ⟨g, 13, none⟩ = some (.int .i64 s3.thr) := by rw [hwc]; exact c13
                      have b1 : wc.cell? ⟨wr.heap.size, 1, none⟩ = some (.int .i64 (p.size : Int)) := by rw [hwc]; exact a1
                      have g12 : wc.frozen? ⟨g, 12, none⟩ = false := by rw [hwc]; exact f12
                      clear hwc c12 c13 c14 c15 f12 a1 a2 a3 HK6 ROW6
                      generalize wc = V7 at *
                      cases bs
                      · have HGO := veil (show p.asks = true ∧ ¬ (s3.moments = true ∧ p.time ≤ s3.moment) by
                          simp only [Bool.or_eq_false_iff, Bool.not_eq_false', Bool.and_eq_false_iff, decide_eq_false_iff_not] at hbs
                          exact ⟨hbs.1, fun q => hbs.2.elim (fun e => by rw [q.1] at e; cases e) (fun e => e q.2)⟩)
                        clear hbs
                        go_upto_region 32 with fail
                        obtain ⟨bu, hbu⟩ : ∃ bu, (decide (s3.thr < 0) || decide ((wn : Int) < s3.thr)) = bu := ⟨_, rfl⟩
                        go_cut [221] from 178 to 247 (fun cv wx => cv = .bool bu ∧ ∃ m, wx = V7.drewN m)
                        case first =>
                          by_cases h1 : s3.thr < 0
                          · have d5 : decide (s3.thr < 0) = true := by simp; omega
                            have HBU := veil (show bu = true by rw [← hbu, d5]; rfl)
                            go_quiet (fail)
                            go_wp2
                            go_meet
                            case rel => exact ⟨by rw [HBU.out], _, rfl⟩
                          · have d5 : decide (s3.thr < 0) = false := by simp; omega
                            by_cases h2 : (wn : Int) < s3.thr
                            · have d6 : decide ((wn : Int) < s3.thr) = true := by simp; omega
                              have HBU := veil (show bu = true by rw [← hbu, d5, d6]; rfl)
                              go_quiet (fail)
                              go_wp2
                              go_meet
                              case rel => exact ⟨by rw [HBU.out], _, rfl⟩
                            · have d6 : decide ((wn : Int) < s3.thr) = false := by simp; omega
                              have HBU := veil (show bu = false by rw [← hbu, d5, d6]; rfl)
                              go_quiet (fail)
                              go_wp2
                              go_meet
                              case rel => exact ⟨by rw [HBU.out], _, rfl⟩
                        case rest =>
                          obtain ⟨rfl, m7, hwc⟩ := hcut
                          have HK8 := veil (show KeepP (fun q => q = g) W3 wc by rw [hwc]; exact HK7.out.trans (KeepP.of_below (below_drewN (Below.refl _ _) _)))
                          have ROW8 := veil (show Row wc g 74 (rdC (.slice rra rn rrc) (Lg.winTo s3 Hh j)) by rw [hwc]; exact ROW7.out)
                          have c12 : wc.cell? ⟨g, 12, none⟩ = some (.int .i64 (wn : Int)) := by rw [hwc]; exact b12
                          have c1 : wc.cell? ⟨wr.heap.size, 1, none⟩ = some (.int .i64 (p.size : Int)) := by rw [hwc]; exact b1
                          have f12 : wc.frozen? ⟨g, 12, none⟩ = false := by rw [hwc]; exact g12
                          clear hwc b12 b13 b1 g12 HK7 ROW7
                          generalize wc = V8 at *
                          cases bu
                          · have h9 : ¬ (s3.thr < 0 ∨ (wn : Int) < s3.thr) := by
                              rw [Bool.or_eq_false_iff, decide_eq_false_iff_not, decide_eq_false_iff_not] at hbu
                              exact fun q => q.elim hbu.1 hbu.2
                            obtain ⟨qq, hqq⟩ : ∃ qq, 1200 * p.size / wn = qq := ⟨_, rfl⟩
                            obtain ⟨nw, hnw⟩ : ∃ nw, wn + qq = nw := ⟨_, rfl⟩
                            have hq5 : qq ≤ 1440000 := by rw [← hqq]; exact Nat.le_trans (Nat.div_le_self _ _) (by omega)
                            have e6 : IntKind.i64.wrap (1200 * (p.size : Int)) = 1200 * (p.size : Int) := by rw [IntKind.wrap_i64]; omega
                            have e8 : Int.tdiv (1200 * (p.size : Int)) (wn : Int) = (qq : Int) := by rw [Int.tdiv_eq_ediv_of_nonneg (by omega), ← hqq]; rfl
                            have e9 : IntKind.i64.wrap (qq : Int) = (qq : Int) := by rw [IntKind.wrap_i64]; omega
                            have e7 : IntKind.i64.wrap ((wn : Int) + (qq : Int)) = (nw : Int) := by rw [IntKind.wrap_i64]; omega
                            have z9 : ¬ (wn : Int) = 0 := by omega
                            have z8 : ¬ wn = 0 := by omega
                            have HNW := veil (show Lg.growW s3 wn p = nw by rw [grow_slow HGO.out.1 HGO.out.2 h9, hqq, hnw])
                            clear hqq hnw hq5 HGO hbu h9
                            go_wp2_with fail
                            go_region
                            go_wp2
                            go_roundw
                            case rel => exact ⟨j + 1, by have := HJN.out; omega, by go_num, by rw [HSU.out, HNW.out]; exact (ROW8.out.set 12 _).drew, (HK8.out.trans (keepG g _ 12 _)).trans (KeepP.of_below ((Below.refl _ _).drew))⟩
                            case measure => have := HJN.out; simp [intOf]; omega
                          · have h9 : s3.thr < 0 ∨ (wn : Int) < s3.thr := by
                              rw [Bool.or_eq_true, decide_eq_true_eq, decide_eq_true_eq] at hbu
                              exact hbu
                            obtain ⟨nw, hnw⟩ : ∃ nw, wn + p.size = nw := ⟨_, rfl⟩
                            have e7 : IntKind.i64.wrap ((wn : Int) + (p.size : Int)) = (nw : Int) := by rw [IntKind.wrap_i64]; omega
                            have HNW := veil (show Lg.growW s3 wn p = nw by rw [grow_up HGO.out.1 HGO.out.2 h9, hnw])
                            clear hnw HGO hbu h9
                            go_wp2_with fail
                            go_region
                            go_wp2
                            go_roundw
                            case rel => exact ⟨j + 1, by have := HJN.out; omega, by go_num, by rw [HSU.out, HNW.out]; exact (ROW8.out.set 12 _).drew, (HK8.out.trans (keepG g _ 12 _)).trans (KeepP.of_below ((Below.refl _ _).drew))⟩
                            case measure => have := HJN.out; simp [intOf]; omega
                      · have HG := veil (show Lg.growW s3 wn p = wn by
                          rw [Bool.or_eq_true, Bool.and_eq_true, decide_eq_true_eq] at hbs
                          exact hbs.elim (fun q => grow_no0 (by simpa using q)) (fun q => grow_no1 q.1 q.2))
                        clear hbs
                        go_wp2
                        go_roundw
                        case rel => exact ⟨j + 1, by have := HJN.out; omega, by go_num, by rw [HSU.out, HG.out, ← HWN.out]; exact ROW7.out, HK7.out⟩
                        case measure => have := HJN.out; simp [intOf]; omega
                  · obtain rfl : j = n := by omega
                    have hw9 := RST.out wr (HK23.out.trans hkp)
                    have hfs := HF.out.struck rl delay now HNO.out.1 HNO.out.2 HNE.out
                    rw [HST.out] at hfs
                    have hway9 : (Lg.winTo s3 Hh j).way = s.way.filter fun p => !Rg.hasL rl p.num := by rw [← HST.out]; exact (Lg.struck_way s rl delay now).1
                    have hrd9 : RdOk wr g (.slice rra rn rrc) (Lg.winTo s3 Hh j) := ⟨hrow, by rw [hway9, HRN.out]; exact hw9⟩
                    have LOS := veil (refLosing_any g (.slice rra rn rrc) _ now c wr hrd9 hfs HC.out HNO.out.1)
                    have HKQ := veil (HK23.out.trans hkp)
                    have dj : decide ((j : Int) < (j : Int)) = false := by simp
                    have dk : decide (j < j) = false := by simp
                    have HSW := veil (show w.heap.size ≤ WR.heap.size from Nat.le_trans HZ3.out HBEL.out.size)
                    clear hw9 hfs hway9 hrd9 hrow hkp hj hjn
                    go_wp2_with fail
                    refine LOS.out.mono ?_
                    rintro e9 w9 ⟨u9, v9, rfl, o9, hr9, hk9, hv9⟩
                    obtain ⟨oa9, oc9, rfl⟩ := own_shape15 o9
                    have HFIN := veil (show w9.ownsRow w.heap.size 23 1 (.slice ga j gc) j (vnum ((Lg.hitL s rl).map (·.num))) ∧ w9.ownsRow w.heap.size 23 1 _ _ _ ∧ RdOk w9 g v9 _ ∧ KeepP (fun k => k = g) w w9 ∧ (∀ v0, Stay v0 v9 w) from ⟨GOT.out w9 (HKQ.out.trans hk9), own_low2 o9 (Nat.le_trans HSW.out HKQ.out.size), hr9, HKW.out.trans (HKQ.out.trans hk9), fun _ q hq => .inr (Nat.le_trans HSW.out (Nat.le_trans HKQ.out.size (hv9 q hq)))⟩)
                    clear o9 hr9 hk9 hv9
                    go_wp2
                    refine bodyPost_ret (results_tmp3 rfl _ _ _) rfl ?_
                    obtain ⟨rfl, rfl⟩ : L = Lg.lostL (Lg.winTo s3 Hh j) now ∧ S' = Lg.losing (Lg.winTo s3 Hh j) now := by rw [← HST.out]; exact HCS.out.elim (fun q => absurd q.1 HNE.out) (fun q => q.2)
                    exact ⟨_, _, _, rfl, by rw [HNN.out]; exact HFIN.out.1, HFIN.out.2.1, HFIN.out.2.2.1, HFIN.out.2.2.2.1, HFIN.out.2.2.2.2 _⟩
end Go.Proofs.YtohoieleakieeaaGreatDoor
