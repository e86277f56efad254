/-
  The document's reader: ack.
-/
import Derived.Test.YtimhbjlmpojhoaaGreatDoorGg16
import Derived.Test.YtimhbjlmpojhoaaGreatDoorGgFrAckS
import Derived.Deep.AppendLies
import Derived.Deep.RegionLaw
import Derived.BigRegion
import Derived.Maps.AppendAt
namespace Go.Proofs.YtimhbjlmpojhoaaGreatDoor
open Go Go.RowKit

theorem own_ne_row {W : World} {B e z n f : Nat} {v : Value} {xs : List Value} {t : TypeId} {cs : Array Value} (h : W.ownsRow B e z v n xs) (r : Row W f t cs) (he : e ≠ t) : ∀ j, v.ownBlock = some j → j ≠ f := by
  intro j hj q
  subst q
  rcases h.2 with ⟨rfl, _⟩ | ⟨g, c, cur, rfl, _, hh, _⟩
  · cases hj
  · have q' : g = j := Option.some.inj hj
    subst q'
    have r' : W.heap[g]? = some (.cells cs t (0, 0)) := r
    rw [hh] at r'
    injection r' with r'
    injection r' with _ r'
    exact he r'
theorem own_gr {W W' : World} {B e z n g : Nat} {v : Value} {xs : List Value} (h : W.ownsRow B e z v n xs) (hg : W.grownBy W' (some g)) (hb : g < B) : W'.ownsRow B e z v n xs :=
  h.kept hg (by
    cases hv : v.ownBlock with
    | none => exact .inl rfl
    | some j => exact .inr (fun q => by have := (h.lt j hv).1; have : j = g := Option.some.inj q; omega))
theorem Rr.err {base g e : Nat} {b : List By} {w : World} (h : Rr base g b e w) : w.cell? ⟨g, 1, none⟩ = some (.int .i64 (e : Int)) := by
  obtain ⟨s, hr, _⟩ := h
  exact hr.cell 1
theorem gr_snoc {acc : List (Nat × Nat)} {x y : Nat} (h : ∀ i, (gr acc i).1 < 18446744073709551616 ∧ (gr acc i).2 < 18446744073709551616) (hx : x < 18446744073709551616) (hy : y < 18446744073709551616) : ∀ i, (gr (acc ++ [(x, y)]) i).1 < 18446744073709551616 ∧ (gr (acc ++ [(x, y)]) i).2 < 18446744073709551616 := by
  intro i
  unfold gr
  rcases Nat.lt_trichotomy i acc.length with q | q | q
  · rw [List.getElem?_append_left q]
    exact h i
  · subst q
    rw [List.getElem?_append_right (Nat.le_refl _), Nat.sub_self]
    exact ⟨hx, hy⟩
  · rw [List.getElem?_eq_none (by simp; omega)]
    exact ⟨by show (0 : Nat) < _; decide, by show (0 : Nat) < _; decide⟩
/-- Between two rounds of the second loop. -/
def AckJ (base g : Nat) (w : World) (li : Nat) (ac : List (Nat × Nat)) (v : Value) (m : Nat) (b : List By) (e : Nat) (wr : World) : Prop :=
  ∃ v7, Rr base g b e wr ∧ Row wr (w.heap.size + 1) 37 (frC8 3 0 0 li 0 false (.slice none 0 0) v7) ∧ Row wr w.heap.size 37 (frC8 0 0 0 0 0 false (.slice none 0 0) (.slice none 0 0)) ∧ w.grownBy wr (some g) ∧
    wr.ownsRow w.heap.size 114 2 v ac.length (vr ac) ∧ wr.ownsRow w.heap.size 114 2 v7 (ac.length - m) (vr (ac.drop m).reverse) ∧ (v7.ownBlock = none ∨ v7.ownBlock ≠ v.ownBlock)
theorem ack_fin {base g : Nat} {w W : World} {r li e : Nat} {b : List By} {v : Value} {l : List (Nat × Nat)} (rd : Rr base g b e W) (gg : w.grownBy W (some g)) (rr : Row W r 37 (frC8 0 0 0 0 0 false (.slice none 0 0) (.slice none 0 0))) (hr : w.heap.size ≤ r) (hb : base ≤ r) (ho : W.ownsRow w.heap.size 114 2 v (l.length - 0) (vr (l.drop 0).reverse)) (hd : ∀ z, v.ownBlock = some z → z ≠ r)
    (sm : ∀ i, (gr l i).1 < 18446744073709551616 ∧ (gr l i).2 < 18446744073709551616) (hl : li ≤ 4611686018427387903) :
    ∃ F : FrM, F.cells = frC8 3 0 0 li 0 false (.slice none 0 0) v ∧ F.fr = ⟨3, 0, 0, li, 0, false, [], l.reverse⟩ ∧ FrNew w.heap.size (put8 W r (.int .u8 3) (.int .u64 0) (.int .u64 0) (.int .u64 (li : Int)) (.int .u64 0) (.bool false) (.slice none 0 0) v) F ∧
      Rr base g b e (put8 W r (.int .u8 3) (.int .u64 0) (.int .u64 0) (.int .u64 (li : Int)) (.int .u64 0) (.bool false) (.slice none 0 0) v) ∧ w.grownBy (put8 W r (.int .u8 3) (.int .u64 0) (.int .u64 0) (.int .u64 (li : Int)) (.int .u64 0) (.bool false) (.slice none 0 0) v) (some g) ∧
      Row (put8 W r (.int .u8 3) (.int .u64 0) (.int .u64 0) (.int .u64 (li : Int)) (.int .u64 0) (.bool false) (.slice none 0 0) v) r 37 (frC8 3 0 0 li 0 false (.slice none 0 0) v) := by
  rw [Nat.sub_zero, List.drop_zero] at ho
  have ho' := own_put8 ho r (.int .u8 3) (.int .u64 0) (.int .u64 0) (.int .u64 (li : Int)) (.int .u64 0) (.bool false) (.slice none 0 0) v hd
  have sm' : ∀ i, (gr l.reverse i).1 < 18446744073709551616 ∧ (gr l.reverse i).2 < 18446744073709551616 := by
    intro i
    unfold gr
    rcases Nat.lt_or_ge i l.length with q | q
    · rw [List.getElem?_reverse q]
      exact sm _
    · rw [List.getElem?_eq_none (by simp; omega)]
      exact ⟨by show (0 : Nat) < _; decide, by show (0 : Nat) < _; decide⟩
  have hrl : ∃ q : RL, v = .slice q.a q.len q.cap ∧ q.l = l.reverse ∧ q.len = l.length ∧ q.Ok (put8 W r (.int .u8 3) (.int .u64 0) (.int .u64 0) (.int .u64 (li : Int)) (.int .u64 0) (.bool false) (.slice none 0 0) v) := by
    rcases ho'.2 with ⟨h1, h2⟩ | ⟨G, C, cur, h1, _⟩
    · have hl0 : l = [] := List.eq_nil_of_length_eq_zero h2
      subst hl0
      exact ⟨noRg, h1, rfl, rfl, noRg_ok _⟩
    · rw [h1] at ho'
      rw [h1]
      exact ⟨⟨some ⟨G, 0, none⟩, l.length, C, G, 0, l.reverse⟩, rfl, rfl, rfl, rl_own ho' (by simp) sm'⟩
  obtain ⟨q, hv, hql, hqn, hqo⟩ := hrl
  refine ⟨⟨3, 0, 0, li, 0, false, noD, q⟩, by rw [hv]; rfl, by unfold FrM.fr; rw [hql]; rfl, ⟨World.ownsRow_nil _ _ _ _, noD_ok _, ?_, hqo, show 3 < 256 by decide, Nat.zero_le _, Nat.zero_le _, hl, Nat.zero_le _⟩, rd.put8 hb _ _ _ _ _ _ _ _, gput8 gg hr _ _ _ _ _ _ _ _, put8_row rr rfl _ _ _ _ _ _ _ _⟩
  show World.ownsRow _ _ _ _ (.slice q.a q.len q.cap) q.len (vr q.l)
  rw [hql, hqn, ← hqn, ← hv, hqn]
  exact ho'
theorem rev_step {ac : List (Nat × Nat)} {J : Nat} (h : J < ac.length) : (ac.drop (J + 1)).reverse ++ [gr ac J] = (ac.drop J).reverse := by
  rw [List.drop_eq_getElem_cons h, List.reverse_cons]
  unfold gr
  rw [List.getElem?_eq_getElem h]
  rfl
theorem wrap_nat (z : Int) : ∃ X : Nat, IntKind.u64.wrap z = (X : Int) ∧ X < 18446744073709551616 := by
  refine ⟨(IntKind.u64.wrap z).toNat, ?_, ?_⟩
  · rw [IntKind.wrap_u64]; omega
  · rw [IntKind.wrap_u64]; omega

/-- Between two rounds of the first loop. -/
def AckI (base g : Nat) (w : World) (b0 : List By) (E0 to0 li n t j : Nat) (acc : List (Nat × Nat)) (v : Value) (wr : World) : Prop :=
  ∃ (b : List By) (e : Nat), Rr base g b e wr ∧ Row wr (w.heap.size + 1) 37 (frC8 3 0 0 li 0 false (.slice none 0 0) (.slice none 0 0)) ∧ Row wr w.heap.size 37 (frC8 0 0 0 0 0 false (.slice none 0 0) (.slice none 0 0)) ∧ w.grownBy wr (some g) ∧
    wr.ownsRow w.heap.size 114 2 v acc.length (vr acc) ∧ Fr.Prg n to0 b0 E0 j t acc b e ∧ t < 18446744073709551616 ∧ acc.length ≤ j ∧ (∀ i, (gr acc i).1 < 18446744073709551616 ∧ (gr acc i).2 < 18446744073709551616) ∧ j ≤ 64 ∧ (E0 = 0 → n < 64)

set_option maxRecDepth 20000 in
set_option maxHeartbeats 1000000 in
theorem ackC {base g e : Nat} {b : List By} {w : World} (h : Rr base g b e w) (hb : base ≤ w.heap.size) :
    Calls Tryz.prog 118 #[.pointer (some ⟨g, 0, none⟩)] w fun x w' => FrOut base g Fr.ackR b e w x w' := by
  obtain ⟨w1, hw1⟩ : ∃ W, W = (w.alloc (.cells (frC8 0 0 0 0 0 false (.slice none 0 0) (.slice none 0 0)) 37)).alloc (.cells (frC8 3 0 0 0 0 false (.slice none 0 0) (.slice none 0 0)) 37) := ⟨_, rfl⟩
  have rr : Row w1 w.heap.size 37 (frC8 0 0 0 0 0 false (.slice none 0 0) (.slice none 0 0)) := by rw [hw1]; exact (Row.new _ _ _).alloc _
  have rf : Row w1 (w.heap.size + 1) 37 (frC8 3 0 0 0 0 false (.slice none 0 0) (.slice none 0 0)) := by rw [hw1]; exact Row.new1 _ _ _ _
  have gg : w.grownBy w1 (some g) := by rw [hw1]; exact (grown_alloc _ _).trans (grown_alloc _ _)
  have rd : Rr base g b e w1 := by rw [hw1]; exact (h.alloc hb _).alloc (by simp; omega) _
  have hlt := h.lt
  have HFB := veil (show base ≤ w.heap.size + 1 by omega)
  have HFW := veil (show w.heap.size ≤ w.heap.size + 1 by omega)
  have HRF := veil (show w.heap.size ≠ w.heap.size + 1 by omega)
  have HFG := veil (show w.heap.size + 1 ≠ g by omega)
  have HRG := veil (show w.heap.size ≠ g by omega)
  have HGB := veil hlt.1
  have HRB := veil hb
  have hrf : w.heap.size ≠ w.heap.size + 1 := HRF.out
  have RF1 := veil rf
  have RR1 := veil rr
  have GG1 := veil gg
  have RD1 := veil rd
  obtain ⟨i0, hi, hz0, hz1, hz2⟩ := range_info
  clear rf rr gg rd h hb hlt
  go_enter Tryz.func118, Tryz.ntmps118
  obtain ⟨c0, c1, c2, c3, c4, c5, c6, c7⟩ := frC8_cells RF1.out
  obtain ⟨y0, y1, y2, y3, y4, y5, y6, y7⟩ := frC8_cells RR1.out
  obtain ⟨z0, z1, z2, z3, z4, z5, z6, z7⟩ := frC8_fz RF1.out
  obtain ⟨x0, x1, x2, x3, x4, x5, x6, x7⟩ := frC8_fz RR1.out
  go_wp2_with fail
  show Calls _ _ _ ((w.alloc (.cells (frC8 0 0 0 0 0 false (.slice none 0 0) (.slice none 0 0)) 37)).alloc (.cells (frC8 3 0 0 0 0 false (.slice none 0 0) (.slice none 0 0)) 37)) _
  rw [← hw1]
  refine (numberC RD1.out).mono ?_
  rintro xx w2 ⟨n1, b1, e1, rfl, hn, hs, hr, hg⟩
  have RF2 := veil (Row.grown (RF1.out : Row _ (w.heap.size + 1) 37 (frC8 3 0 0 0 0 false (.slice none 0 0) (.slice none 0 0))) hg HFG.out)
  have RR2 := veil (Row.grown RR1.out hg HRG.out)
  have GG2 := veil (GG1.out.trans hg)
  have RD2 := veil hr
  have HN1 := veil hn
  have S1 := veil hs
  clear hn hs
  clear c0 c1 c2 c3 c4 c5 c6 c7 y0 y1 y2 y3 y4 y5 y6 y7 z0 z1 z2 z3 z4 z5 z6 z7 x0 x1 x2 x3 x4 x5 x6 x7
  clear hr hg RF1 RR1 RD1
  obtain ⟨c0, c1, c2, c3, c4, c5, c6, c7⟩ := frC8_cells RF2.out
  obtain ⟨y0, y1, y2, y3, y4, y5, y6, y7⟩ := frC8_cells RR2.out
  obtain ⟨z0, z1, z2, z3, z4, z5, z6, z7⟩ := frC8_fz RF2.out
  obtain ⟨x0, x1, x2, x3, x4, x5, x6, x7⟩ := frC8_fz RR2.out
  go_wp2_with fail
  refine (numberC RD2.out).mono ?_
  rintro xx w3 ⟨n2, b2, e2, rfl, hn, hs, hr, hg⟩
  have RF3 := veil (Row.grown (RF2.out : Row _ (w.heap.size + 1) 37 (frC8 3 0 0 0 0 false (.slice none 0 0) (.slice none 0 0))) hg HFG.out)
  have RR3 := veil (Row.grown RR2.out hg HRG.out)
  have GG3 := veil (GG2.out.trans hg)
  have RD3 := veil hr
  have HN2 := veil hn
  have S2 := veil hs
  clear hn hs
  clear c0 c1 c2 c3 c4 c5 c6 c7 y0 y1 y2 y3 y4 y5 y6 y7 z0 z1 z2 z3 z4 z5 z6 z7 x0 x1 x2 x3 x4 x5 x6 x7
  clear hr hg RF2 RR2 RD2
  obtain ⟨c0, c1, c2, c3, c4, c5, c6, c7⟩ := frC8_cells RF3.out
  obtain ⟨y0, y1, y2, y3, y4, y5, y6, y7⟩ := frC8_cells RR3.out
  obtain ⟨z0, z1, z2, z3, z4, z5, z6, z7⟩ := frC8_fz RF3.out
  obtain ⟨x0, x1, x2, x3, x4, x5, x6, x7⟩ := frC8_fz RR3.out
  go_wp2_with fail
  refine (numberC (RD3.out.set HFB.out 3 (.int .u64 ((n2 : Nat) : Int)))).mono ?_
  rintro xx w4 ⟨n3, b3, e3, rfl, hn, hs, hr, hg⟩
  have RF4 := veil (Row.grown ((RF3.out.set 3 (.int .u64 ((n2 : Nat) : Int))) : Row _ (w.heap.size + 1) 37 (frC8 3 0 0 n2 0 false (.slice none 0 0) (.slice none 0 0))) hg HFG.out)
  have RR4 := veil (Row.grown (RR3.out.other (a := ⟨(w.heap.size + 1), 3, none⟩) HRF.out (.int .u64 ((n2 : Nat) : Int))) hg HRG.out)
  have GG4 := veil ((gset GG3.out HFW.out 3 (.int .u64 ((n2 : Nat) : Int))).trans hg)
  have RD4 := veil hr
  have HN3 := veil hn
  have S3 := veil hs
  clear hn hs
  clear c0 c1 c2 c3 c4 c5 c6 c7 y0 y1 y2 y3 y4 y5 y6 y7 z0 z1 z2 z3 z4 z5 z6 z7 x0 x1 x2 x3 x4 x5 x6 x7
  clear hr hg RF3 RR3 RD3
  obtain ⟨c0, c1, c2, c3, c4, c5, c6, c7⟩ := frC8_cells RF4.out
  obtain ⟨y0, y1, y2, y3, y4, y5, y6, y7⟩ := frC8_cells RR4.out
  obtain ⟨z0, z1, z2, z3, z4, z5, z6, z7⟩ := frC8_fz RF4.out
  obtain ⟨x0, x1, x2, x3, x4, x5, x6, x7⟩ := frC8_fz RR4.out
  obtain ⟨so, hso⟩ : ∃ so : Bool, decide ((64 : Int) ≤ (n3 : Int)) = so := ⟨_, rfl⟩
  have HSO : Hid (so = true ↔ 64 ≤ n3) := show _ ↔ _ by rw [← hso, decide_eq_true_iff]; omega
  go_wp2_with fail
  refine (wrongC RD4.out so 3).mono ?_
  rintro xx w5 ⟨⟨vv, rfl⟩, hr, hg⟩
  have RF5 := veil (Row.grown (RF4.out : Row _ (w.heap.size + 1) 37 (frC8 3 0 0 n2 0 false (.slice none 0 0) (.slice none 0 0))) hg HFG.out)
  have RR5 := veil (Row.grown RR4.out hg HRG.out)
  have GG5 := veil (GG4.out.trans hg)
  have RD5 := veil hr
  clear hso
  clear c0 c1 c2 c3 c4 c5 c6 c7 y0 y1 y2 y3 y4 y5 y6 y7 z0 z1 z2 z3 z4 z5 z6 z7 x0 x1 x2 x3 x4 x5 x6 x7
  clear hr hg RF4 RR4 RD4
  obtain ⟨c0, c1, c2, c3, c4, c5, c6, c7⟩ := frC8_cells RF5.out
  obtain ⟨y0, y1, y2, y3, y4, y5, y6, y7⟩ := frC8_cells RR5.out
  obtain ⟨z0, z1, z2, z3, z4, z5, z6, z7⟩ := frC8_fz RF5.out
  obtain ⟨x0, x1, x2, x3, x4, x5, x6, x7⟩ := frC8_fz RR5.out
  clear c0 c1 c2 c3 c4 c5 c6 c7 y0 y1 y2 y3 y4 y5 y6 y7 z0 z1 z2 z3 z4 z5 z6 z7 x0 x1 x2 x3 x4 x5 x6 x7
  obtain ⟨E0, hE0⟩ : ∃ E, (if so = true ∧ e3 = 0 then 3 else e3) = E := ⟨_, rfl⟩
  rw [hE0] at RD5
  have HE0 := veil hE0
  clear hE0
  have S1x := S1
  have S2x := S2
  have S3x := S3
  clear S1 S2 S3
  have A0 : Hid (AckI base g w b3 E0 n1 n2 n3 n1 0 [] (.slice none 0 0) w5) := ⟨b3, E0, RD5.out, RF5.out, RR5.out, GG5.out, World.ownsRow_nil _ _ _ _, Fr.prg_start _ _ _ _, by have := HN1.out; omega, Nat.zero_le _, (fun j => ⟨by show (0 : Nat) < _; decide, by show (0 : Nat) < _; decide⟩), by decide, fun h0 => by
    have := HE0.out
    rw [h0] at this
    by_cases q : 64 ≤ n3
    · have hs : so = true := HSO.out.2 q
      by_cases q2 : e3 = 0
      · rw [if_pos ⟨hs, q2⟩] at this; cases this
      · rw [if_neg (fun z => q2 z.2)] at this; exact absurd this q2
    · omega⟩
  go_wp2_with fail
  go_loopw [4, 6, 7] (fun to back i wr => ∃ (t j : Nat) (acc : List (Nat × Nat)), to = .int .u64 (t : Int) ∧ i = .int .u64 (j : Int) ∧ AckI base g w b3 E0 n1 n2 n3 t j acc back wr)
    (fun _ _ i _ => 65 - (intOf i).toNat)
  case atStart => exact ⟨n1, 0, [], rfl, rfl, A0.out⟩
  case round =>
    obtain ⟨t, j, acc, rfl, rfl, b, e, rd, rf, rr, gg, ow, pg, ht, hal, hsm, hj, hn⟩ := hrel
    have RD := veil rd
    have RF := veil rf
    have RR := veil rr
    have GG := veil gg
    have OW := veil ow
    have PG := veil pg
    have SM := veil hsm
    have HT := veil ht
    have HAL := veil hal
    have HN := veil hn
    have cE := rd.err
    have HJ := veil hj
    clear rd rf rr gg ow pg hsm ht hal hn hj
    by_cases he : e = 0
    · subst he
      have hlv := Fr.prg_live PG.out
      have HLV := veil hlv
      have hj64 : j < 64 := by have := HN.out hlv.1; have := hlv.2.1; omega
      clear hlv
      simp only [show ((0 : Nat) : Int) = 0 from rfl] at cE
      go_wp2_with fail
      refine (numberC RD.out).mono ?_
      rintro xx wa ⟨k, b1, e1, rfl, hk, s1, rd1, hg1⟩
      have RD1 := veil rd1
      have S1 := veil s1
      have HK := veil hk
      have RF1 := veil (Row.grown RF.out hg1 HFG.out)
      have RR1 := veil (Row.grown RR.out hg1 HRG.out)
      have GG1 := veil (GG.out.trans hg1)
      have OW1 := veil (own_gr OW.out hg1 (by have := HGB.out; have := HRB.out; omega))
      obtain ⟨so1, hso1⟩ : ∃ so : Bool, decide (t < k) = so := ⟨_, rfl⟩
      have HSO1 : Hid (so1 = true ↔ t < k) := show _ ↔ _ by rw [← hso1, decide_eq_true_iff]
      clear rd1 s1 hk hg1 cE RD RF RR GG OW
      go_wp2_with fail
      refine (wrongC RD1.out so1 5).mono ?_
      rintro xx wb ⟨⟨vv, rfl⟩, rd2, hg2⟩
      obtain ⟨E1, hE1⟩ : ∃ E, (if so1 = true ∧ e1 = 0 then 5 else e1) = E := ⟨_, rfl⟩
      rw [hE1] at rd2
      have HE1 := veil hE1
      have RD2 := veil rd2
      have RF2 := veil (Row.grown RF1.out hg2 HFG.out)
      have RR2 := veil (Row.grown RR1.out hg2 HRG.out)
      have GG2 := veil (GG1.out.trans hg2)
      have OW2 := veil (own_gr OW1.out hg2 (by have := HGB.out; have := HRB.out; omega))
      obtain ⟨X, hX, hX2⟩ := wrap_nat ((t : Int) - (k : Int))
      have HX2 := veil hX2
      have HXV := veil (show k ≤ t → X = t - k from fun q => by rw [IntKind.wrap_u64] at hX; have := HT.out; omega)
      clear rd2 hg2 hE1 RD1 RF1 RR1 GG1 OW1 hX2 hso1
      go_wp2_with (with_reducible (show wpList _ _ _ (⟨some 44, Op.call _, _, _, _, _⟩ :: _) _ _); refine Hid.out ?_)
      refine show wpList _ _ _ _ _ _ from ?_
      refine wpList_append_own_at _ rfl _ _ 35 rfl w.heap.size 114 i0 (.agg (rC2 (0, 0))) 2 16 Tryz.underlying35 hi hz0 hz1 hz2 rfl (by decide) u6 acc.length (vr acc) rfl (OW2.out.alloc _) ⟨wb.heap.size, 0, none⟩ 1 1 (vr [(X, t)]) rfl rfl (World.news_of_block (cs := #[.int .u64 (X : Int), .int .u64 (t : Int)]) (fr := (0, 0)) (heap_alloc_new wb _)) (vr_one _) (by have := HAL.out; unfold maxLen; omega) (by have := HAL.out; omega) (by have := GG2.out.size; simp; omega) ?_
      intro v3 w3 ho3 hgr3 _ hat3
      have hbl : Below base wb w3 := ((Below.refl base wb).alloc (by have := GG2.out.size; have := HRB.out; omega) _).grown hgr3 (by have := GG2.out.size; have := HRB.out; simp; omega) (fun z hz => by have := (OW2.out.lt z hz).1; have := HRB.out; omega)
      have RD3 := veil (RD2.out.below hbl)
      have RF3 : Hid (Row w3 (w.heap.size + 1) 37 (frC8 3 0 0 n2 0 false (.slice none 0 0) (.slice none 0 0))) := (hgr3.block _ (RF2.out.alloc (.cells #[.int .u64 (X : Int), .int .u64 (t : Int)] 114)).lt (fun q => own_ne_row OW2.out RF2.out (by decide) _ q.symm rfl)).trans (RF2.out.alloc _)
      have RR3 : Hid (Row w3 w.heap.size 37 (frC8 0 0 0 0 0 false (.slice none 0 0) (.slice none 0 0))) := (hgr3.block _ (RR2.out.alloc (.cells #[.int .u64 (X : Int), .int .u64 (t : Int)] 114)).lt (fun q => own_ne_row OW2.out RR2.out (by decide) _ q.symm rfl)).trans (RR2.out.alloc _)
      have GG3 : Hid (w.grownBy w3 (some g)) := ⟨hgr3.os.trans GG2.out.os, hgr3.tape.trans GG2.out.tape, hgr3.output.trans GG2.out.output, Nat.le_trans GG2.out.size (Nat.le_trans (by simp) hgr3.size), fun z hz hne => (hgr3.block z (by have := GG2.out.size; simp; omega) (fun q => by have := (OW2.out.lt z q.symm).1; omega)).trans ((heap_alloc_old wb _ (by have := GG2.out.size; omega)).trans (GG2.out.block z hz hne))⟩
      have OW3 : Hid (w3.ownsRow w.heap.size 114 2 v3 (acc ++ [(X, t)]).length (vr (acc ++ [(X, t)]))) := by
        have := ho3
        rw [← vr_append] at this
        rw [List.length_append]
        exact this
      have SM3 := veil (gr_snoc SM.out HX2.out HT.out)
      have LN3 := veil (show (acc ++ [(X, t)]).length ≤ j + 1 by rw [List.length_append]; have := HAL.out; simp; omega)
      have cE := RD3.out.err
      clear ho3 hgr3 hat3 hbl RD2 RF2 RR2 GG2 OW2
      by_cases hjn : j = n3
      · have fj : ((j : Int) == (n3 : Int)) = true := by simp; omega
        have fj2 : (j == n3) = true := by simp; omega
        have SIMx : Hid (Fr.Sim (Fr.ackLoop n3 n1) b3 E0 (acc ++ [(X, t)]) b1 E1) := by
          by_cases q : E1 = 0
          · have q2 : so1 ≠ true ∧ e1 = 0 := by
              have := HE1.out
              rw [q] at this
              by_cases z : so1 = true ∧ e1 = 0
              · rw [if_pos z] at this; cases this
              · rw [if_neg z] at this; exact ⟨fun z1 => z ⟨z1, this⟩, this⟩
            have hkt : k ≤ t := by
              have := HSO1.out
              by_cases z : t < k
              · exact absurd (this.2 z) q2.1
              · omega
            rw [q, HXV.out hkt]
            have s1 := S1.out
            rw [q2.2] at s1
            have pg := PG.out
            rw [hjn] at pg
            exact Fr.prg_last pg s1 hkt
          · have := Fr.prg_bad PG.out S1.out HSO1.out (by rw [HE1.out]; exact q) (acc ++ [(X, t)]) b1
            rw [HE1.out] at this
            exact this
        have LNx := veil (show (acc ++ [(X, t)]).length ≤ 64 by have := LN3.out; omega)
        clear hX
        generalize acc ++ [(X, t)] = ac at *
        clear HLV PG S1 HSO1 HE1 HXV LN3 SM HT HAL cE HK HX2
        obtain ⟨bF, hbF⟩ : ∃ x, b1 = x := ⟨_, rfl⟩
        rw [hbF] at RD3 SIMx
        clear hbF
        obtain ⟨a3, c3, rfl⟩ : ∃ a c, v3 = .slice a ac.length c := by
          rcases OW3.out.2 with ⟨h1, h2⟩ | ⟨g, c, _, h1, _⟩
          · exact ⟨none, 0, by rw [h1, h2]⟩
          · exact ⟨some ⟨g, 0, none⟩, c, h1⟩
        have A3 : Hid (AckJ base g w n2 ac (.slice a3 ac.length c3) ac.length bF E1 w3) := ⟨(.slice none 0 0), RD3.out, RF3.out, RR3.out, GG3.out, OW3.out, by rw [Nat.sub_self, List.drop_length]; exact World.ownsRow_nil _ _ _ _, .inl rfl⟩
        have hln : (ac.length : Int) ≤ 64 := by have := LNx.out; omega
        clear RD3 RF3 RR3 GG3 OW3
        go_wp2_with fail
        go_loopw [10] (fun i wr => ∃ m : Nat, m ≤ ac.length ∧ i = .int .i64 ((m : Int) - 1) ∧ AckJ base g w n2 ac (.slice a3 ac.length c3) m bF E1 wr)
          (fun i _ => (intOf i + 1).toNat)
        case atStart => exact ⟨ac.length, Nat.le_refl _, rfl, A3.out⟩
        case round =>
          obtain ⟨m, hm, rfl, v7, rd, rf, rr, gg, ow, o7, ap⟩ := hrel
          have RD := veil rd
          have RF := veil rf
          have RR := veil rr
          have GG := veil gg
          have OW := veil ow
          have O7 := veil o7
          have AP := veil ap
          clear rd rf rr gg ow o7 ap A3
          by_cases hm0 : m = 0
          · subst hm0
            obtain ⟨d0, d1, d2, d3, d4, d5, d6, d7⟩ := frC8_cells RF.out
            obtain ⟨y0, y1, y2, y3, y4, y5, y6, y7⟩ := frC8_cells RR.out
            obtain ⟨x0, x1, x2, x3, x4, x5, x6, x7⟩ := frC8_fz RR.out
            obtain ⟨a7, k7, e7, rfl⟩ : ∃ a k c, v7 = .slice a k c := by
              rcases O7.out.2 with ⟨h1, _⟩ | ⟨g, c, _, h1, _⟩
              · exact ⟨none, 0, 0, h1⟩
              · exact ⟨some ⟨g, 0, none⟩, _, c, h1⟩
            obtain ⟨F, q1, q2, q3, q4, q5, q6⟩ := ack_fin RD.out GG.out RR.out (Nat.le_refl _) HRB.out O7.out (own_ne_row O7.out RR.out (by decide)) SM3.out HN2.out
            have Q3 := veil q3
            have Q4 := veil q4
            have Q5 := veil q5
            have Q6 := veil q6
            clear q3 q4 q5 q6
            go_wp2_with fail
            refine bodyPost_ret (result_frame rfl _ _ w.heap.size _ _ Q6.out 8 _ rfl Tryz.underlying37 (by kernel_rfl) rfl) rfl ⟨F, _, _, by rw [q1], Q3.out, ?_, Q4.out, Q5.out⟩
            rw [q2]
            refine Fr.sim_then S1x.out (Fr.sim_then S2x.out (Fr.sim_then S3x.out (Fr.sim_wrong so HSO.out (by decide) ?_)))
            rw [HE0.out]
            exact Fr.sim_then SIMx.out (Fr.sim_ok _ _ _)
          · obtain ⟨J, rfl⟩ : ∃ J, m = J + 1 := ⟨m - 1, by omega⟩
            obtain ⟨G3, rfl⟩ : ∃ G, a3 = some ⟨G, 0, none⟩ := by
              rcases OW.out.2 with ⟨h1, h2⟩ | ⟨g, c, _, h1, _⟩
              · omega
              · injection h1 with h1 _ _
                exact ⟨g, h1⟩
            have hrg := own_range OW.out rfl J (by omega)
            have cb0 : wr.cell? ⟨G3, J * 2, none⟩ = some (.int .u64 ((gr ac J).1 : Int)) := by have := hrg 0 _ rfl; rw [Nat.zero_add] at this; exact this
            have cb1 : wr.cell? ⟨G3, J * 2 + 1, none⟩ = some (.int .u64 ((gr ac J).2 : Int)) := by have := hrg 1 _ rfl; rw [Nat.zero_add] at this; exact this
            obtain ⟨a7, k7, e7, rfl⟩ : ∃ a k c, v7 = .slice a k c := by
              rcases O7.out.2 with ⟨h1, _⟩ | ⟨g, c, _, h1, _⟩
              · exact ⟨none, 0, 0, h1⟩
              · exact ⟨some ⟨g, 0, none⟩, _, c, h1⟩
            have hJ : ((J + 1 : Nat) : Int) - 1 = (J : Int) := by omega
            have hJl : (J : Int) < (ac.length : Int) := by omega
            have hd0 : decide ((0 : Int) ≤ (J : Int)) = true := by simp
            obtain ⟨d0, d1, d2, d3, d4, d5, d6, d7⟩ := frC8_cells RF.out
            have z7 := RF.out.frozen 7
            have HRS := veil (rev_step (ac := ac) (J := J) (by omega))
            clear hrg
            rw [hJ]
            have hne7 : ∀ z, (Value.slice a7 k7 e7).ownBlock = some z → z ≠ w.heap.size + 1 := own_ne_row O7.out RF.out (by decide)
            have HNE7 := veil hne7
            have hlt7 := RF.out.lt
            clear hne7
            go_wp2_with fail
            go_region_law (refine step_append_lies _ (by rfl) _ _ 35 (by rfl) w.heap.size 114 i0 _ 2 16 Tryz.underlying35 hi hz0 hz1 hz2 (by rfl) (by decide) (.slice a7 k7 e7) (ac.length - (J + 1)) (vr (ac.drop (J + 1)).reverse) (by rfl) (by exact (O7.out.alloc _)) ⟨wr.heap.size, 0, none⟩ 1 1 [.int .u64 ((gr ac J).1 : Int), .int .u64 ((gr ac J).2 : Int)] (by rfl) (by rfl) (by exact World.news_of_block (cs := #[.int .u64 ((gr ac J).1 : Int), .int .u64 ((gr ac J).2 : Int)]) (fr := (0, 0)) (heap_alloc_new wr _)) (by simp [Value.oneCell']) (by decide) (by unfold maxLen; omega) (by omega) (by have := GG.out.size; simp; omega) (wr.heap.size + 1) (by simp) ?_; intro g9 c9 w9 hown9 hgrow9 hat9 hglt9; have hk1 : w9.cell? ⟨w.heap.size + 1, 7, none⟩ = some (.slice a7 k7 e7) := hgrow9.cell (a := ⟨w.heap.size + 1, 7, none⟩) (by exact (World.cell?_alloc_old _ _ _ (by show w.heap.size + 1 ≠ _; omega)).trans d7) (fun q => HNE7.out _ q.symm rfl); have hk2 : w9.frozen? ⟨w.heap.size + 1, 7, none⟩ = false := (World.frozen?_of_block (a := ⟨w.heap.size + 1, 7, none⟩) (hgrow9.block _ (by simp; omega) (fun q => HNE7.out _ q.symm rfl))).trans (by exact (World.frozen?_of_block (w := wr) (a := ⟨w.heap.size + 1, 7, none⟩) ((World.grownBy_alloc wr _ none).block _ hlt7 (by simp))).trans z7))
            all_goals
              have hgq : (wr.alloc (.cells #[.int .u64 ((gr ac J).1 : Int), .int .u64 ((gr ac J).2 : Int)] 114)).grownBy w9 (Value.slice a7 k7 e7).ownBlock := ⟨hgrow9.os, hgrow9.tape, hgrow9.output, hgrow9.size, hgrow9.block⟩
              have hbl : Below base wr w9 := ((Below.refl base wr).alloc (by have := GG.out.size; have := HRB.out; omega) _).grown hgq (by have := GG.out.size; have := HRB.out; simp; omega) (fun z hz => by have := (O7.out.lt z hz).1; have := HRB.out; omega)
              have rf9 : Row w9 (w.heap.size + 1) 37 (frC8 3 0 0 n2 0 false (.slice none 0 0) (.slice a7 k7 e7)) := (hgq.block _ (RF.out.alloc (.cells #[.int .u64 ((gr ac J).1 : Int), .int .u64 ((gr ac J).2 : Int)] 114)).lt (fun q => HNE7.out _ q.symm rfl)).trans (RF.out.alloc _)
              have rr9 : Row w9 w.heap.size 37 (frC8 0 0 0 0 0 false (.slice none 0 0) (.slice none 0 0)) := (hgq.block _ (RR.out.alloc (.cells #[.int .u64 ((gr ac J).1 : Int), .int .u64 ((gr ac J).2 : Int)] 114)).lt (fun q => own_ne_row O7.out RR.out (by decide) _ q.symm rfl)).trans (RR.out.alloc _)
              have gg9 : w.grownBy w9 (some g) := ⟨hgq.os.trans GG.out.os, hgq.tape.trans GG.out.tape, hgq.output.trans GG.out.output, Nat.le_trans GG.out.size (Nat.le_trans (by simp) hgq.size), fun z hz hne => (hgq.block z (by have := GG.out.size; simp; omega) (fun q => by have := (O7.out.lt z q.symm).1; omega)).trans ((heap_alloc_old wr _ (by have := GG.out.size; omega)).trans (GG.out.block z hz hne))⟩
              have ow9 : w9.ownsRow w.heap.size 114 2 (.slice (some ⟨G3, 0, none⟩) ac.length c3) ac.length (vr ac) := (OW.out.alloc _).kept hgq (.inr (fun q => by
                rcases AP.out with h1 | h1
                · rw [h1] at q; cases q
                · exact h1 q.symm))
              have hown9' : w9.ownsRow w.heap.size 114 2 (.slice (some ⟨g9, 0, none⟩) (ac.length - J) c9) (ac.length - J) (vr (ac.drop J).reverse) := by
                rw [← HRS.out, vr_append, show ac.length - J = ac.length - (J + 1) + 1 by omega]
                exact hown9
              have ap9 : (Value.slice (some ⟨g9, 0, none⟩) (ac.length - J) c9).ownBlock ≠ (Value.slice (some ⟨G3, 0, none⟩) ac.length c3).ownBlock := fun q => by
                have q' : g9 = G3 := Option.some.inj q
                have h3 := (OW.out.lt G3 rfl).2
                rcases hat9 with h1 | h1
                · rcases AP.out with h2 | h2
                  · rw [h2] at h1; cases h1
                  · exact h2 (by rw [h1, q']; rfl)
                · omega
              have RD9 := veil ((RD.out.below hbl).set HFB.out 7 (.slice (some ⟨g9, 0, none⟩) (ac.length - J) c9))
              have RF9 : Hid (Row (w9.setCell ⟨w.heap.size + 1, 7, none⟩ (.slice (some ⟨g9, 0, none⟩) (ac.length - J) c9)) (w.heap.size + 1) 37 (frC8 3 0 0 n2 0 false (.slice none 0 0) (.slice (some ⟨g9, 0, none⟩) (ac.length - J) c9))) := rf9.set 7 _
              have RR9 := veil (rr9.other (a := ⟨w.heap.size + 1, 7, none⟩) HRF.out (.slice (some ⟨g9, 0, none⟩) (ac.length - J) c9))
              have GG9 := veil (gset gg9 HFW.out 7 (.slice (some ⟨g9, 0, none⟩) (ac.length - J) c9))
              have OW9 := veil (own_set ow9 (w.heap.size + 1) 7 (.slice (some ⟨g9, 0, none⟩) (ac.length - J) c9) (own_ne_row ow9 rf9 (by decide)))
              have O79 := veil (own_set hown9' (w.heap.size + 1) 7 (.slice (some ⟨g9, 0, none⟩) (ac.length - J) c9) (own_ne_row hown9' rf9 (by decide)))
              have AP9 := veil ap9
              rw [show ac.length - (J + 1) + 1 = ac.length - J by omega]
              clear hgq hbl rf9 rr9 gg9 ow9 hown9' ap9 hown9 hgrow9 hat9 hglt9 hk1 hk2 cb0 cb1 d0 d1 d2 d3 d4 d5 d6 d7 z7
              go_wp2_with fail
              exact ⟨⟨J, by omega, by go_num, _, RD9.out, RF9.out, RR9.out, GG9.out, OW9.out, O79.out, .inr AP9.out⟩, by simp [intOf]⟩
      · have fj : ((j : Int) == (n3 : Int)) = false := by simp; omega
        have fj2 : (j == n3) = false := by simp; omega
        by_cases q : E1 = 0
        · have q2 : so1 ≠ true ∧ e1 = 0 := by
            have := HE1.out
            rw [q] at this
            by_cases z : so1 = true ∧ e1 = 0
            · rw [if_pos z] at this; cases this
            · rw [if_neg z] at this; exact ⟨fun z1 => z ⟨z1, this⟩, this⟩
          have hkt : k ≤ t := by
            have := HSO1.out
            by_cases z : t < k
            · exact absurd (this.2 z) q2.1
            · omega
          have s1 := S1.out
          rw [q2.2] at s1
          have S1' := veil s1
          have HKT := veil hkt
          have HXE := veil (HXV.out hkt)
          subst q
          clear q2 hkt s1 S1 HXV
          simp only [show ((0 : Nat) : Int) = 0 from rfl] at cE
          go_wp2_with fail
          refine (numberC RD3.out).mono ?_
          rintro xx w4 ⟨gap, b2, e2, rfl, hgp, s2, rd4, hg4⟩
          have RD4 := veil rd4
          have S2 := veil s2
          have RF4 := veil (Row.grown RF3.out hg4 HFG.out)
          have RR4 := veil (Row.grown RR3.out hg4 HRG.out)
          have GG4 := veil (GG3.out.trans hg4)
          have OW4 := veil (own_gr OW3.out hg4 (by have := HGB.out; have := HRB.out; omega))
          obtain ⟨G2, hG2⟩ : ∃ x, gap + 2 = x := ⟨_, rfl⟩
          have hgw : IntKind.u64.wrap ((gap : Int) + 2) = (G2 : Int) := by rw [IntKind.wrap_u64]; omega
          obtain ⟨so2, hso2⟩ : ∃ so : Bool, decide (X < G2) = so := ⟨_, rfl⟩
          have HSO2 : Hid (so2 = true ↔ t - k < gap + 2) := show _ ↔ _ by rw [← hso2, decide_eq_true_iff, HXE.out, hG2]
          obtain ⟨T1, hT1, _⟩ := wrap_nat ((X : Int) - (gap : Int))
          obtain ⟨T2, hT2, hT3⟩ := wrap_nat ((T1 : Int) - 2)
          have HT3 := veil hT3
          have HTV := veil (show gap + 2 ≤ X → T2 = X - gap - 2 from fun q => by rw [IntKind.wrap_u64] at hT1 hT2; have := HX2.out; omega)
          clear rd4 s2 hg4 hgp cE RD3 RF3 RR3 GG3 OW3 hG2 hT3
          go_wp2_with fail
          refine (wrongC RD4.out so2 5).mono ?_
          rintro xx w5 ⟨⟨vv, rfl⟩, rd5, hg5⟩
          have RD5 := veil rd5
          have RF5 := veil (Row.grown RF4.out hg5 HFG.out)
          have RR5 := veil (Row.grown RR4.out hg5 HRG.out)
          have GG5 := veil (GG4.out.trans hg5)
          have OW5 := veil (own_gr OW4.out hg5 (by have := HGB.out; have := HRB.out; omega))
          have PG5 : Hid (Fr.Prg n3 n1 b3 E0 (j + 1) T2 (acc ++ [(X, t)]) b2 (if so2 = true ∧ e2 = 0 then 5 else e2)) := by
            have pn := Fr.prg_next PG.out S1'.out HKT.out hjn S2.out HSO2.out
            rw [← HXE.out] at pn
            by_cases z : (if so2 = true ∧ e2 = 0 then 5 else e2) = 0
            · have z2 : so2 ≠ true := fun z3 => by
                by_cases z4 : e2 = 0
                · rw [if_pos ⟨z3, z4⟩] at z; cases z
                · rw [if_neg (fun z5 => z4 z5.2)] at z; exact z4 z
              have z3 : gap + 2 ≤ X := by
                have := HSO2.out
                rw [HXE.out]
                by_cases z4 : t - k < gap + 2
                · exact absurd (this.2 z4) z2
                · omega
              rw [HTV.out z3]
              exact pn
            · exact Fr.prg_other pn z _ _
          clear rd5 hg5 RD4 RF4 RR4 GG4 OW4 hso2 hgw
          go_wp2_with fail
          exact ⟨⟨T2, j + 1, acc ++ [(X, t)], rfl, by go_num, b2, _, RD5.out, RF5.out, RR5.out, GG5.out, OW5.out, PG5.out, HT3.out, LN3.out, SM3.out, by omega, HN.out⟩, by simp [intOf]; omega⟩
        · have fE : ((E1 : Int) != 0) = true := by simp; omega
          have SIMx : Hid (Fr.Sim (Fr.ackLoop n3 n1) b3 E0 (acc ++ [(X, t)]) b1 E1) := by
            have := Fr.prg_bad PG.out S1.out HSO1.out (by rw [HE1.out]; exact q) (acc ++ [(X, t)]) b1
            rw [HE1.out] at this
            exact this
          have LNx := veil (show (acc ++ [(X, t)]).length ≤ 64 by have := LN3.out; omega)
          clear hX
          generalize acc ++ [(X, t)] = ac at *
          clear HLV PG S1 HSO1 HE1 HXV LN3 SM HT HAL HK HX2
          obtain ⟨bF, hbF⟩ : ∃ x, b1 = x := ⟨_, rfl⟩
          rw [hbF] at RD3 SIMx
          clear hbF
          obtain ⟨a3, c3, rfl⟩ : ∃ a c, v3 = .slice a ac.length c := by
            rcases OW3.out.2 with ⟨h1, h2⟩ | ⟨g, c, _, h1, _⟩
            · exact ⟨none, 0, by rw [h1, h2]⟩
            · exact ⟨some ⟨g, 0, none⟩, c, h1⟩
          have A3 : Hid (AckJ base g w n2 ac (.slice a3 ac.length c3) ac.length bF E1 w3) := ⟨(.slice none 0 0), RD3.out, RF3.out, RR3.out, GG3.out, OW3.out, by rw [Nat.sub_self, List.drop_length]; exact World.ownsRow_nil _ _ _ _, .inl rfl⟩
          have hln : (ac.length : Int) ≤ 64 := by have := LNx.out; omega
          clear RD3 RF3 RR3 GG3 OW3
          go_wp2_with fail
          go_loopw [10] (fun i wr => ∃ m : Nat, m ≤ ac.length ∧ i = .int .i64 ((m : Int) - 1) ∧ AckJ base g w n2 ac (.slice a3 ac.length c3) m bF E1 wr)
            (fun i _ => (intOf i + 1).toNat)
          case atStart => exact ⟨ac.length, Nat.le_refl _, rfl, A3.out⟩
          case round =>
            obtain ⟨m, hm, rfl, v7, rd, rf, rr, gg, ow, o7, ap⟩ := hrel
            have RD := veil rd
            have RF := veil rf
            have RR := veil rr
            have GG := veil gg
            have OW := veil ow
            have O7 := veil o7
            have AP := veil ap
            clear rd rf rr gg ow o7 ap A3
            by_cases hm0 : m = 0
            · subst hm0
              obtain ⟨d0, d1, d2, d3, d4, d5, d6, d7⟩ := frC8_cells RF.out
              obtain ⟨y0, y1, y2, y3, y4, y5, y6, y7⟩ := frC8_cells RR.out
              obtain ⟨x0, x1, x2, x3, x4, x5, x6, x7⟩ := frC8_fz RR.out
              obtain ⟨a7, k7, e7, rfl⟩ : ∃ a k c, v7 = .slice a k c := by
                rcases O7.out.2 with ⟨h1, _⟩ | ⟨g, c, _, h1, _⟩
                · exact ⟨none, 0, 0, h1⟩
                · exact ⟨some ⟨g, 0, none⟩, _, c, h1⟩
              obtain ⟨F, q1, q2, q3, q4, q5, q6⟩ := ack_fin RD.out GG.out RR.out (Nat.le_refl _) HRB.out O7.out (own_ne_row O7.out RR.out (by decide)) SM3.out HN2.out
              have Q3 := veil q3
              have Q4 := veil q4
              have Q5 := veil q5
              have Q6 := veil q6
              clear q3 q4 q5 q6
              go_wp2_with fail
              refine bodyPost_ret (result_frame rfl _ _ w.heap.size _ _ Q6.out 8 _ rfl Tryz.underlying37 (by kernel_rfl) rfl) rfl ⟨F, _, _, by rw [q1], Q3.out, ?_, Q4.out, Q5.out⟩
              rw [q2]
              refine Fr.sim_then S1x.out (Fr.sim_then S2x.out (Fr.sim_then S3x.out (Fr.sim_wrong so HSO.out (by decide) ?_)))
              rw [HE0.out]
              exact Fr.sim_then SIMx.out (Fr.sim_ok _ _ _)
            · obtain ⟨J, rfl⟩ : ∃ J, m = J + 1 := ⟨m - 1, by omega⟩
              obtain ⟨G3, rfl⟩ : ∃ G, a3 = some ⟨G, 0, none⟩ := by
                rcases OW.out.2 with ⟨h1, h2⟩ | ⟨g, c, _, h1, _⟩
                · omega
                · injection h1 with h1 _ _
                  exact ⟨g, h1⟩
              have hrg := own_range OW.out rfl J (by omega)
              have cb0 : wr.cell? ⟨G3, J * 2, none⟩ = some (.int .u64 ((gr ac J).1 : Int)) := by have := hrg 0 _ rfl; rw [Nat.zero_add] at this; exact this
              have cb1 : wr.cell? ⟨G3, J * 2 + 1, none⟩ = some (.int .u64 ((gr ac J).2 : Int)) := by have := hrg 1 _ rfl; rw [Nat.zero_add] at this; exact this
              obtain ⟨a7, k7, e7, rfl⟩ : ∃ a k c, v7 = .slice a k c := by
                rcases O7.out.2 with ⟨h1, _⟩ | ⟨g, c, _, h1, _⟩
                · exact ⟨none, 0, 0, h1⟩
                · exact ⟨some ⟨g, 0, none⟩, _, c, h1⟩
              have hJ : ((J + 1 : Nat) : Int) - 1 = (J : Int) := by omega
              have hJl : (J : Int) < (ac.length : Int) := by omega
              have hd0 : decide ((0 : Int) ≤ (J : Int)) = true := by simp
              obtain ⟨d0, d1, d2, d3, d4, d5, d6, d7⟩ := frC8_cells RF.out
              have z7 := RF.out.frozen 7
              have HRS := veil (rev_step (ac := ac) (J := J) (by omega))
              clear hrg
              rw [hJ]
              have hne7 : ∀ z, (Value.slice a7 k7 e7).ownBlock = some z → z ≠ w.heap.size + 1 := own_ne_row O7.out RF.out (by decide)
              have HNE7 := veil hne7
              have hlt7 := RF.out.lt
              clear hne7
              go_wp2_with fail
              go_region_law (refine step_append_lies _ (by rfl) _ _ 35 (by rfl) w.heap.size 114 i0 _ 2 16 Tryz.underlying35 hi hz0 hz1 hz2 (by rfl) (by decide) (.slice a7 k7 e7) (ac.length - (J + 1)) (vr (ac.drop (J + 1)).reverse) (by rfl) (by exact (O7.out.alloc _)) ⟨wr.heap.size, 0, none⟩ 1 1 [.int .u64 ((gr ac J).1 : Int), .int .u64 ((gr ac J).2 : Int)] (by rfl) (by rfl) (by exact World.news_of_block (cs := #[.int .u64 ((gr ac J).1 : Int), .int .u64 ((gr ac J).2 : Int)]) (fr := (0, 0)) (heap_alloc_new wr _)) (by simp [Value.oneCell']) (by decide) (by unfold maxLen; omega) (by omega) (by have := GG.out.size; simp; omega) (wr.heap.size + 1) (by simp) ?_; intro g9 c9 w9 hown9 hgrow9 hat9 hglt9; have hk1 : w9.cell? ⟨w.heap.size + 1, 7, none⟩ = some (.slice a7 k7 e7) := hgrow9.cell (a := ⟨w.heap.size + 1, 7, none⟩) (by exact (World.cell?_alloc_old _ _ _ (by show w.heap.size + 1 ≠ _; omega)).trans d7) (fun q => HNE7.out _ q.symm rfl); have hk2 : w9.frozen? ⟨w.heap.size + 1, 7, none⟩ = false := (World.frozen?_of_block (a := ⟨w.heap.size + 1, 7, none⟩) (hgrow9.block _ (by simp; omega) (fun q => HNE7.out _ q.symm rfl))).trans (by exact (World.frozen?_of_block (w := wr) (a := ⟨w.heap.size + 1, 7, none⟩) ((World.grownBy_alloc wr _ none).block _ hlt7 (by simp))).trans z7))
              all_goals
                have hgq : (wr.alloc (.cells #[.int .u64 ((gr ac J).1 : Int), .int .u64 ((gr ac J).2 : Int)] 114)).grownBy w9 (Value.slice a7 k7 e7).ownBlock := ⟨hgrow9.os, hgrow9.tape, hgrow9.output, hgrow9.size, hgrow9.block⟩
                have hbl : Below base wr w9 := ((Below.refl base wr).alloc (by have := GG.out.size; have := HRB.out; omega) _).grown hgq (by have := GG.out.size; have := HRB.out; simp; omega) (fun z hz => by have := (O7.out.lt z hz).1; have := HRB.out; omega)
                have rf9 : Row w9 (w.heap.size + 1) 37 (frC8 3 0 0 n2 0 false (.slice none 0 0) (.slice a7 k7 e7)) := (hgq.block _ (RF.out.alloc (.cells #[.int .u64 ((gr ac J).1 : Int), .int .u64 ((gr ac J).2 : Int)] 114)).lt (fun q => HNE7.out _ q.symm rfl)).trans (RF.out.alloc _)
                have rr9 : Row w9 w.heap.size 37 (frC8 0 0 0 0 0 false (.slice none 0 0) (.slice none 0 0)) := (hgq.block _ (RR.out.alloc (.cells #[.int .u64 ((gr ac J).1 : Int), .int .u64 ((gr ac J).2 : Int)] 114)).lt (fun q => own_ne_row O7.out RR.out (by decide) _ q.symm rfl)).trans (RR.out.alloc _)
                have gg9 : w.grownBy w9 (some g) := ⟨hgq.os.trans GG.out.os, hgq.tape.trans GG.out.tape, hgq.output.trans GG.out.output, Nat.le_trans GG.out.size (Nat.le_trans (by simp) hgq.size), fun z hz hne => (hgq.block z (by have := GG.out.size; simp; omega) (fun q => by have := (O7.out.lt z q.symm).1; omega)).trans ((heap_alloc_old wr _ (by have := GG.out.size; omega)).trans (GG.out.block z hz hne))⟩
                have ow9 : w9.ownsRow w.heap.size 114 2 (.slice (some ⟨G3, 0, none⟩) ac.length c3) ac.length (vr ac) := (OW.out.alloc _).kept hgq (.inr (fun q => by
                  rcases AP.out with h1 | h1
                  · rw [h1] at q; cases q
                  · exact h1 q.symm))
                have hown9' : w9.ownsRow w.heap.size 114 2 (.slice (some ⟨g9, 0, none⟩) (ac.length - J) c9) (ac.length - J) (vr (ac.drop J).reverse) := by
                  rw [← HRS.out, vr_append, show ac.length - J = ac.length - (J + 1) + 1 by omega]
                  exact hown9
                have ap9 : (Value.slice (some ⟨g9, 0, none⟩) (ac.length - J) c9).ownBlock ≠ (Value.slice (some ⟨G3, 0, none⟩) ac.length c3).ownBlock := fun q => by
                  have q' : g9 = G3 := Option.some.inj q
                  have h3 := (OW.out.lt G3 rfl).2
                  rcases hat9 with h1 | h1
                  · rcases AP.out with h2 | h2
                    · rw [h2] at h1; cases h1
                    · exact h2 (by rw [h1, q']; rfl)
                  · omega
                have RD9 := veil ((RD.out.below hbl).set HFB.out 7 (.slice (some ⟨g9, 0, none⟩) (ac.length - J) c9))
                have RF9 : Hid (Row (w9.setCell ⟨w.heap.size + 1, 7, none⟩ (.slice (some ⟨g9, 0, none⟩) (ac.length - J) c9)) (w.heap.size + 1) 37 (frC8 3 0 0 n2 0 false (.slice none 0 0) (.slice (some ⟨g9, 0, none⟩) (ac.length - J) c9))) := rf9.set 7 _
                have RR9 := veil (rr9.other (a := ⟨w.heap.size + 1, 7, none⟩) HRF.out (.slice (some ⟨g9, 0, none⟩) (ac.length - J) c9))
                have GG9 := veil (gset gg9 HFW.out 7 (.slice (some ⟨g9, 0, none⟩) (ac.length - J) c9))
                have OW9 := veil (own_set ow9 (w.heap.size + 1) 7 (.slice (some ⟨g9, 0, none⟩) (ac.length - J) c9) (own_ne_row ow9 rf9 (by decide)))
                have O79 := veil (own_set hown9' (w.heap.size + 1) 7 (.slice (some ⟨g9, 0, none⟩) (ac.length - J) c9) (own_ne_row hown9' rf9 (by decide)))
                have AP9 := veil ap9
                rw [show ac.length - (J + 1) + 1 = ac.length - J by omega]
                clear hgq hbl rf9 rr9 gg9 ow9 hown9' ap9 hown9 hgrow9 hat9 hglt9 hk1 hk2 cb0 cb1 d0 d1 d2 d3 d4 d5 d6 d7 z7
                go_wp2_with fail
                exact ⟨⟨J, by omega, by go_num, _, RD9.out, RF9.out, RR9.out, GG9.out, OW9.out, O79.out, .inr AP9.out⟩, by simp [intOf]⟩
    · have fE : ((e : Int) == 0) = false := by simp; omega
      have SIMx := veil (Fr.prg_dead PG.out he acc b)
      have LNx := veil (show acc.length ≤ 64 by have := HAL.out; have := HJ.out; omega)
      obtain ⟨ac, rfl⟩ : ∃ x, x = acc := ⟨_, rfl⟩
      obtain ⟨bF, rfl⟩ : ∃ x, x = b := ⟨_, rfl⟩
      obtain ⟨E1, rfl⟩ : ∃ x, x = e := ⟨_, rfl⟩
      obtain ⟨w3, rfl⟩ : ∃ x, x = wr := ⟨_, rfl⟩
      obtain ⟨v3, rfl⟩ : ∃ x, x = u6 := ⟨_, rfl⟩
      have RD3 := RD
      have RF3 := RF
      have RR3 := RR
      have GG3 := GG
      have OW3 := OW
      have SM3 := SM
      clear RD RF RR GG OW PG SM HT HAL HN HJ
      obtain ⟨a3, c3, rfl⟩ : ∃ a c, v3 = .slice a ac.length c := by
        rcases OW3.out.2 with ⟨h1, h2⟩ | ⟨g, c, _, h1, _⟩
        · exact ⟨none, 0, by rw [h1, h2]⟩
        · exact ⟨some ⟨g, 0, none⟩, c, h1⟩
      have A3 : Hid (AckJ base g w n2 ac (.slice a3 ac.length c3) ac.length bF E1 w3) := ⟨(.slice none 0 0), RD3.out, RF3.out, RR3.out, GG3.out, OW3.out, by rw [Nat.sub_self, List.drop_length]; exact World.ownsRow_nil _ _ _ _, .inl rfl⟩
      have hln : (ac.length : Int) ≤ 64 := by have := LNx.out; omega
      clear RD3 RF3 RR3 GG3 OW3
      go_wp2_with fail
      go_loopw [10] (fun i wr => ∃ m : Nat, m ≤ ac.length ∧ i = .int .i64 ((m : Int) - 1) ∧ AckJ base g w n2 ac (.slice a3 ac.length c3) m bF E1 wr)
        (fun i _ => (intOf i + 1).toNat)
      case atStart => exact ⟨ac.length, Nat.le_refl _, rfl, A3.out⟩
      case round =>
        obtain ⟨m, hm, rfl, v7, rd, rf, rr, gg, ow, o7, ap⟩ := hrel
        have RD := veil rd
        have RF := veil rf
        have RR := veil rr
        have GG := veil gg
        have OW := veil ow
        have O7 := veil o7
        have AP := veil ap
        clear rd rf rr gg ow o7 ap A3
        by_cases hm0 : m = 0
        · subst hm0
          obtain ⟨d0, d1, d2, d3, d4, d5, d6, d7⟩ := frC8_cells RF.out
          obtain ⟨y0, y1, y2, y3, y4, y5, y6, y7⟩ := frC8_cells RR.out
          obtain ⟨x0, x1, x2, x3, x4, x5, x6, x7⟩ := frC8_fz RR.out
          obtain ⟨a7, k7, e7, rfl⟩ : ∃ a k c, v7 = .slice a k c := by
            rcases O7.out.2 with ⟨h1, _⟩ | ⟨g, c, _, h1, _⟩
            · exact ⟨none, 0, 0, h1⟩
            · exact ⟨some ⟨g, 0, none⟩, _, c, h1⟩
          obtain ⟨F, q1, q2, q3, q4, q5, q6⟩ := ack_fin RD.out GG.out RR.out (Nat.le_refl _) HRB.out O7.out (own_ne_row O7.out RR.out (by decide)) SM3.out HN2.out
          have Q3 := veil q3
          have Q4 := veil q4
          have Q5 := veil q5
          have Q6 := veil q6
          clear q3 q4 q5 q6
          go_wp2_with fail
          refine bodyPost_ret (result_frame rfl _ _ w.heap.size _ _ Q6.out 8 _ rfl Tryz.underlying37 (by kernel_rfl) rfl) rfl ⟨F, _, _, by rw [q1], Q3.out, ?_, Q4.out, Q5.out⟩
          rw [q2]
          refine Fr.sim_then S1x.out (Fr.sim_then S2x.out (Fr.sim_then S3x.out (Fr.sim_wrong so HSO.out (by decide) ?_)))
          rw [HE0.out]
          exact Fr.sim_then SIMx.out (Fr.sim_ok _ _ _)
        · obtain ⟨J, rfl⟩ : ∃ J, m = J + 1 := ⟨m - 1, by omega⟩
          obtain ⟨G3, rfl⟩ : ∃ G, a3 = some ⟨G, 0, none⟩ := by
            rcases OW.out.2 with ⟨h1, h2⟩ | ⟨g, c, _, h1, _⟩
            · omega
            · injection h1 with h1 _ _
              exact ⟨g, h1⟩
          have hrg := own_range OW.out rfl J (by omega)
          have cb0 : wr.cell? ⟨G3, J * 2, none⟩ = some (.int .u64 ((gr ac J).1 : Int)) := by have := hrg 0 _ rfl; rw [Nat.zero_add] at this; exact this
          have cb1 : wr.cell? ⟨G3, J * 2 + 1, none⟩ = some (.int .u64 ((gr ac J).2 : Int)) := by have := hrg 1 _ rfl; rw [Nat.zero_add] at this; exact this
          obtain ⟨a7, k7, e7, rfl⟩ : ∃ a k c, v7 = .slice a k c := by
            rcases O7.out.2 with ⟨h1, _⟩ | ⟨g, c, _, h1, _⟩
            · exact ⟨none, 0, 0, h1⟩
            · exact ⟨some ⟨g, 0, none⟩, _, c, h1⟩
          have hJ : ((J + 1 : Nat) : Int) - 1 = (J : Int) := by omega
          have hJl : (J : Int) < (ac.length : Int) := by omega
          have hd0 : decide ((0 : Int) ≤ (J : Int)) = true := by simp
          obtain ⟨d0, d1, d2, d3, d4, d5, d6, d7⟩ := frC8_cells RF.out
          have z7 := RF.out.frozen 7
          have HRS := veil (rev_step (ac := ac) (J := J) (by omega))
          clear hrg
          rw [hJ]
          have hne7 : ∀ z, (Value.slice a7 k7 e7).ownBlock = some z → z ≠ w.heap.size + 1 := own_ne_row O7.out RF.out (by decide)
          have HNE7 := veil hne7
          have hlt7 := RF.out.lt
          clear hne7
          go_wp2_with fail
          go_region_law (refine step_append_lies _ (by rfl) _ _ 35 (by rfl) w.heap.size 114 i0 _ 2 16 Tryz.underlying35 hi hz0 hz1 hz2 (by rfl) (by decide) (.slice a7 k7 e7) (ac.length - (J + 1)) (vr (ac.drop (J + 1)).reverse) (by rfl) (by exact (O7.out.alloc _)) ⟨wr.heap.size, 0, none⟩ 1 1 [.int .u64 ((gr ac J).1 : Int), .int .u64 ((gr ac J).2 : Int)] (by rfl) (by rfl) (by exact World.news_of_block (cs := #[.int .u64 ((gr ac J).1 : Int), .int .u64 ((gr ac J).2 : Int)]) (fr := (0, 0)) (heap_alloc_new wr _)) (by simp [Value.oneCell']) (by decide) (by unfold maxLen; omega) (by omega) (by have := GG.out.size; simp; omega) (wr.heap.size + 1) (by simp) ?_; intro g9 c9 w9 hown9 hgrow9 hat9 hglt9; have hk1 : w9.cell? ⟨w.heap.size + 1, 7, none⟩ = some (.slice a7 k7 e7) := hgrow9.cell (a := ⟨w.heap.size + 1, 7, none⟩) (by exact (World.cell?_alloc_old _ _ _ (by show w.heap.size + 1 ≠ _; omega)).trans d7) (fun q => HNE7.out _ q.symm rfl); have hk2 : w9.frozen? ⟨w.heap.size + 1, 7, none⟩ = false := (World.frozen?_of_block (a := ⟨w.heap.size + 1, 7, none⟩) (hgrow9.block _ (by simp; omega) (fun q => HNE7.out _ q.symm rfl))).trans (by exact (World.frozen?_of_block (w := wr) (a := ⟨w.heap.size + 1, 7, none⟩) ((World.grownBy_alloc wr _ none).block _ hlt7 (by simp))).trans z7))
          all_goals
            have hgq : (wr.alloc (.cells #[.int .u64 ((gr ac J).1 : Int), .int .u64 ((gr ac J).2 : Int)] 114)).grownBy w9 (Value.slice a7 k7 e7).ownBlock := ⟨hgrow9.os, hgrow9.tape, hgrow9.output, hgrow9.size, hgrow9.block⟩
            have hbl : Below base wr w9 := ((Below.refl base wr).alloc (by have := GG.out.size; have := HRB.out; omega) _).grown hgq (by have := GG.out.size; have := HRB.out; simp; omega) (fun z hz => by have := (O7.out.lt z hz).1; have := HRB.out; omega)
            have rf9 : Row w9 (w.heap.size + 1) 37 (frC8 3 0 0 n2 0 false (.slice none 0 0) (.slice a7 k7 e7)) := (hgq.block _ (RF.out.alloc (.cells #[.int .u64 ((gr ac J).1 : Int), .int .u64 ((gr ac J).2 : Int)] 114)).lt (fun q => HNE7.out _ q.symm rfl)).trans (RF.out.alloc _)
            have rr9 : Row w9 w.heap.size 37 (frC8 0 0 0 0 0 false (.slice none 0 0) (.slice none 0 0)) := (hgq.block _ (RR.out.alloc (.cells #[.int .u64 ((gr ac J).1 : Int), .int .u64 ((gr ac J).2 : Int)] 114)).lt (fun q => own_ne_row O7.out RR.out (by decide) _ q.symm rfl)).trans (RR.out.alloc _)
            have gg9 : w.grownBy w9 (some g) := ⟨hgq.os.trans GG.out.os, hgq.tape.trans GG.out.tape, hgq.output.trans GG.out.output, Nat.le_trans GG.out.size (Nat.le_trans (by simp) hgq.size), fun z hz hne => (hgq.block z (by have := GG.out.size; simp; omega) (fun q => by have := (O7.out.lt z q.symm).1; omega)).trans ((heap_alloc_old wr _ (by have := GG.out.size; omega)).trans (GG.out.block z hz hne))⟩
            have ow9 : w9.ownsRow w.heap.size 114 2 (.slice (some ⟨G3, 0, none⟩) ac.length c3) ac.length (vr ac) := (OW.out.alloc _).kept hgq (.inr (fun q => by
              rcases AP.out with h1 | h1
              · rw [h1] at q; cases q
              · exact h1 q.symm))
            have hown9' : w9.ownsRow w.heap.size 114 2 (.slice (some ⟨g9, 0, none⟩) (ac.length - J) c9) (ac.length - J) (vr (ac.drop J).reverse) := by
              rw [← HRS.out, vr_append, show ac.length - J = ac.length - (J + 1) + 1 by omega]
              exact hown9
            have ap9 : (Value.slice (some ⟨g9, 0, none⟩) (ac.length - J) c9).ownBlock ≠ (Value.slice (some ⟨G3, 0, none⟩) ac.length c3).ownBlock := fun q => by
              have q' : g9 = G3 := Option.some.inj q
              have h3 := (OW.out.lt G3 rfl).2
              rcases hat9 with h1 | h1
              · rcases AP.out with h2 | h2
                · rw [h2] at h1; cases h1
                · exact h2 (by rw [h1, q']; rfl)
              · omega
            have RD9 := veil ((RD.out.below hbl).set HFB.out 7 (.slice (some ⟨g9, 0, none⟩) (ac.length - J) c9))
            have RF9 : Hid (Row (w9.setCell ⟨w.heap.size + 1, 7, none⟩ (.slice (some ⟨g9, 0, none⟩) (ac.length - J) c9)) (w.heap.size + 1) 37 (frC8 3 0 0 n2 0 false (.slice none 0 0) (.slice (some ⟨g9, 0, none⟩) (ac.length - J) c9))) := rf9.set 7 _
            have RR9 := veil (rr9.other (a := ⟨w.heap.size + 1, 7, none⟩) HRF.out (.slice (some ⟨g9, 0, none⟩) (ac.length - J) c9))
            have GG9 := veil (gset gg9 HFW.out 7 (.slice (some ⟨g9, 0, none⟩) (ac.length - J) c9))
            have OW9 := veil (own_set ow9 (w.heap.size + 1) 7 (.slice (some ⟨g9, 0, none⟩) (ac.length - J) c9) (own_ne_row ow9 rf9 (by decide)))
            have O79 := veil (own_set hown9' (w.heap.size + 1) 7 (.slice (some ⟨g9, 0, none⟩) (ac.length - J) c9) (own_ne_row hown9' rf9 (by decide)))
            have AP9 := veil ap9
            rw [show ac.length - (J + 1) + 1 = ac.length - J by omega]
            clear hgq hbl rf9 rr9 gg9 ow9 hown9' ap9 hown9 hgrow9 hat9 hglt9 hk1 hk2 cb0 cb1 d0 d1 d2 d3 d4 d5 d6 d7 z7
            go_wp2_with fail
            exact ⟨⟨J, by omega, by go_num, _, RD9.out, RF9.out, RR9.out, GG9.out, OW9.out, O79.out, .inr AP9.out⟩, by simp [intOf]⟩
end Go.Proofs.YtimhbjlmpojhoaaGreatDoor
