/-
  frame's reader: ack (written by mkgetk.py).
-/
import Derived.Test.YtjhgelhdhdcmfaaDoorGfFrAckR
import Derived.Test.YtjhgelhdhdcmfaaDoorGfFrGetS
namespace Go.Proofs.YtjhgelhdhdcmfaaDoor
open Go Go.RowKit

theorem run_subU2 {P : Program} {a : Act} {o : Oper} (t t' : TypeId) (x y : Operand) (m r : Nat) (hr : r ≤ m) (hm : m < 18446744073709551616) (ho : o.op = .binOp .sub t x y t') (hx : a.eval x = .int .u64 (m : Int)) (hy : a.eval y = .int .u64 (r : Int)) (W : World) :
    (execOp a.eval o).run P W = .ok (.value (.int .u64 ((m - r : Nat) : Int))) W := by
  have hw : IntKind.u64.wrap ((m : Int) - (r : Int)) = ((m - r : Nat) : Int) := by rw [IntKind.wrap_u64]; omega
  unfold execOp
  simp only [ho, hx, hy]
  go_simp
def depKA : Nat → List Nat
  | 1 => [0]
  | 4 => [2, 3]
  | 5 => [4]
  | 6 => [1, 5]
  | 8 => [6, 7]
  | _ => []
def valKA (g q to : Nat) (rv : Value) : Nat → Value
  | 0 => .pointer (some ⟨q, 7, none⟩)
  | 1 => rv
  | 2 => .pointer (some ⟨g, 0, none⟩)
  | 3 => .int .u64 (to : Int)
  | 7 => .pointer (some ⟨q, 7, none⟩)
  | _ => undef
def depKB : Nat → List Nat
  | 1 => [0]
  | 5 => [3, 4]
  | 6 => [5]
  | 7 => [2, 6]
  | 8 => [7]
  | 9 => [1, 8]
  | 11 => [9, 10]
  | _ => []
def valKB (g q below gap : Nat) (rv : Value) : Nat → Value
  | 0 => .pointer (some ⟨q, 7, none⟩)
  | 1 => rv
  | 2 => .pointer (some ⟨g, 0, none⟩)
  | 3 => .int .u64 (below : Int)
  | 4 => .int .u64 (gap : Int)
  | 5 => .int .u64 ((below - gap : Nat) : Int)
  | 6 => .int .u64 ((below - gap - 2 : Nat) : Int)
  | 10 => .pointer (some ⟨q, 7, none⟩)
  | _ => undef
/-- What the spine of a step brings about: the range, its block, the longer row, and that it is stored. -/
def ackR5 (w : World) (g q lim tb to : Nat) (s s' : SL) (rv : Value) (acc : List (Nat × Nat)) : Nat → World → Value → Prop
  | 0, W, _ => Ack w g q lim tb s s' rv W ∧ W.ownsRow (q + 1) 44 2 rv acc.length (vr acc)
  | 1, W, u => ∃ r rest, ∃ s2 : SL, rngR to s'.b = .ok (r, rest) ∧ s2.b = rest ∧ (r.1 ≤ r.2 ∧ r.2 = to) ∧ Ack w g q lim tb s s2 rv W ∧ W.ownsRow (q + 1) 44 2 rv acc.length (vr acc) ∧ u = .agg (rC2 r)
  | 2, W, u => ∃ r rest, ∃ (s2 : SL) (gN : Nat), rngR to s'.b = .ok (r, rest) ∧ s2.b = rest ∧ (r.1 ≤ r.2 ∧ r.2 = to) ∧ Ack w g q lim tb s s2 rv W ∧ W.ownsRow (q + 1) 44 2 rv acc.length (vr acc) ∧ u = .slice (some ⟨gN, 0, none⟩) 1 1 ∧ (∀ j v, (vr [r])[j]? = some v → W.cell? ((⟨gN, 0, none⟩ : Addr).add j) = some v)
  | 3, W, u => ∃ r rest, ∃ s2 : SL, rngR to s'.b = .ok (r, rest) ∧ s2.b = rest ∧ (r.1 ≤ r.2 ∧ r.2 = to) ∧ Ack w g q lim tb s s2 rv W ∧ W.ownsRow (q + 1) 44 2 u (acc ++ [r]).length (vr (acc ++ [r]))
  | _, W, _ => ∃ r rest, ∃ (s2 : SL) (rv' : Value), rngR to s'.b = .ok (r, rest) ∧ s2.b = rest ∧ (r.1 ≤ r.2 ∧ r.2 = to) ∧ Ack w g q lim tb s s2 rv' W ∧ W.ownsRow (q + 1) 44 2 rv' (acc ++ [r]).length (vr (acc ++ [r]))
theorem ackR5_cell {w W : World} {g q lim tb to m : Nat} {s s' : SL} {rv u : Value} {acc : List (Nat × Nat)} (h : ackR5 w g q lim tb to s s' rv acc m W u) (hm : m ≤ 3) : W.cell? ⟨q, 7, none⟩ = some rv := by
  match m, hm, h with
  | 0, _, h => exact h.1.rq.cell 7
  | 1, _, ⟨_, _, _, _, _, _, h, _⟩ => exact h.rq.cell 7
  | 2, _, ⟨_, _, _, _, _, _, _, h, _⟩ => exact h.rq.cell 7
  | 3, _, ⟨_, _, _, _, _, _, h, _⟩ => exact h.rq.cell 7
theorem ackR5_1 {w W W' : World} {g q lim tb to : Nat} {s s' s2 : SL} {rv u v : Value} {acc : List (Nat × Nat)} {r : Nat × Nat} {rest : List By} (h : ackR5 w g q lim tb to s s' rv acc 0 W u) (he : rngR to s'.b = .ok (r, rest)) (hv : v = .agg (rC2 r) ∧ r.1 ≤ r.2 ∧ r.2 = to) (hR : Rd W' g s2 tb) (hb : s2.b = rest) (hsg : s2.g = s'.g) (hsl : s2.len ≤ s'.len) (hg : W.grownBy W' (some g)) : ackR5 w g q lim tb to s s' rv acc 1 W' v :=
  ⟨r, rest, s2, he, hb, hv.2, h.1.call hR hsg hsl hg, own_grown h.2 hg (by have := h.1.ord; omega), hv.1⟩
theorem Ack.qlt {w Y : World} {g q lim tb : Nat} {s s' : SL} {rv : Value} (h : Ack w g q lim tb s s' rv Y) : q + 1 ≤ Y.heap.size := h.rq.lt
theorem ackR5_2 {w W : World} {g q lim tb to : Nat} {s s' : SL} {rv : Value} {acc : List (Nat × Nat)} {r : Nat × Nat} (h : ackR5 w g q lim tb to s s' rv acc 1 W (.agg (rC2 r))) : ackR5 w g q lim tb to s s' rv acc 2 (W.alloc (.cells (rC2 r) 44)) (.slice (some ⟨W.heap.size, 0, none⟩) 1 1) := by
  obtain ⟨r', rest, s2, h1, h2, h3, h4, h5, h6⟩ := h
  have e : r = r' := by
    injection h6 with h6
    have a0 : (Value.int .u64 (r.1 : Int)) = .int .u64 (r'.1 : Int) := by have := congrArg (fun a => a[0]?) h6; simpa [rC2] using this
    have a1 : (Value.int .u64 (r.2 : Int)) = .int .u64 (r'.2 : Int) := by have := congrArg (fun a => a[1]?) h6; simpa [rC2] using this
    injection a0 with _ a0
    injection a1 with _ a1
    exact Prod.ext (by omega) (by omega)
  subst e
  have b : Below W.heap.size W (W.alloc (.cells (rC2 r) 44)) := (Below.refl _ _).alloc (Nat.le_refl _) _
  exact ⟨r, rest, s2, W.heap.size, h1, h2, h3, h4.keep (b.mono h4.qlt), own_below2 h5 b, rfl, rC2_lit W r⟩
theorem ackR5_3 {w W : World} {g q lim tb to gN : Nat} {s s' : SL} {rv : Value} {acc : List (Nat × Nat)} (hacc : acc.length ≤ 100) (h : ackR5 w g q lim tb to s s' rv acc 2 W (.slice (some ⟨gN, 0, none⟩) 1 1)) :
    ∃ v' W', (Builtin.append_ #[37, 37] 37 #[rv, .slice (some ⟨gN, 0, none⟩) 1 1]).run Tryd.prog W = .ok v' W' ∧ ackR5 w g q lim tb to s s' rv acc 3 W' v' := by
  obtain ⟨i0, hi, hz0, hz1, hz2⟩ := range_info
  obtain ⟨r, rest, s2, gN', h1, h2, h3, h4, h5, h6, h7⟩ := h
  injection h6 with e
  injection e with e
  injection e with e
  subst e
  obtain ⟨v', W', hr, ho, hg, _⟩ := run_append_own (P := Tryd.prog) W (q + 1) 37 37 44 i0 (.agg (rC2 (0, 0))) 2 16 Tryd.underlying37 hi hz0 hz1 hz2 rfl (by decide) rv acc.length (vr acc) h5 ⟨gN, 0, none⟩ 1 1 (vr [r]) rfl h7 (vr_one _) (by unfold maxLen; omega) (by omega) h4.qlt
  have b : Below (q + 1) W W' := (Below.refl _ W).grown hg h4.qlt (fun p e => (h5.lt p e).1)
  refine ⟨v', W', hr, r, rest, s2, h1, h2, h3, h4.keep b, ?_⟩
  rw [vr_append, List.length_append]
  exact ho
theorem own_shapeR {w : World} {base n : Nat} {v : Value} {xs : List Value} (h : w.ownsRow base 44 2 v n xs) : ∃ a c, v = .slice a n c := by
  rcases h.2 with ⟨rfl, rfl⟩ | ⟨g, c, _, rfl, _⟩
  · exact ⟨none, 0, rfl⟩
  · exact ⟨_, c, rfl⟩

set_option maxRecDepth 20000 in
set_option maxHeartbeats 8000000 in
theorem rd_ack (g : Nat) (s : SL) (tb : Nat) (w : World) (h : Rd w g s tb) :
    Calls Tryd.prog 38 #[.pointer (some ⟨g, 0, none⟩)] w (RdPost w g s tb (Fr.bodyP 2) (frV w.heap.size)) := by
  have hgw := h.row.lt
  have hLl := h.lens.lt
  have H := veil h
  have b0 := veil ((Below.refl _ w).alloc (Nat.le_refl _) (.cells zF 39))
  have R0 := veil (Row.new w 39 zF)
  have E0 := veil (show Fr.bodyP 2 s.b = Fr.thenR Fr.numR (fun to => Fr.thenR Fr.numR fun lim => Fr.thenR Fr.numR fun n => if 64 ≤ n then Fr.noR 3 else Fr.thenR (Fr.ackLoop n to) fun l => Fr.okR { Fr.f0 with kind := 3, limit := lim, ranges := l.reverse }) s.b from rfl)
  clear h
  refine (callsIn_wide (n := 4)).1 ?_
  refine callsIn_of_wp Tryd.func38 rfl trivial ?_ rfl
  simp only [Tryd.ntmps38, List.size_toArray, List.length_cons, List.length_nil, Nat.reduceAdd, Nat.reduceSub, Array.replicate_succ, Array.replicate_zero, List.push_toArray, List.append_toArray, List.nil_append, List.cons_append]
  gi_wp2_with fail
  refine ⟨trivial, (callsIn_wide.2 (rd_num g s tb (w.alloc (.cells zF 39)) (H.out.below b0.out))).mono ?_⟩
  rintro x1 w1 (⟨e, he, rfl, hg⟩ | ⟨n1, r1, v1, s1, he1, rfl, ⟨rfl, hv1⟩, hR1, hb1, hsg1, hsl1, hg1⟩)
  · exact ⟨rfl, .inl ⟨e, ch_err E0.out rfl he, rfl, grown_trans (grown_alloc (.cells zF 39) (some g)) hg⟩⟩
  have E1 := veil (ch_ok E0.out rfl he1)
  have G1 := veil (grown_trans (grown_alloc (.cells zF 39) (some g)) hg1)
  have Q1 := veil (Row.grown R0.out hg1 (show w.heap.size ≠ g by omega))
  have B1 := veil hb1
  have D1 := veil hR1
  have M1 := veil (show s1.g = s.g ∧ s1.len ≤ s.len from ⟨hsg1, hsl1⟩)
  have V1 := veil hv1
  have hq1 : w.heap.size + 1 ≤ w1.heap.size := by have := hg1.size; simp at this; exact this
  clear he1 hg1 hb1 hR1 hsg1 hsl1 hv1
  gi_wp2_with fail
  refine ⟨trivial, (callsIn_wide.2 (rd_num g s1 tb w1 D1.out)).mono ?_⟩
  rintro x2 w2 (⟨e, he, rfl, hg⟩ | ⟨n2, r2, v2, s2, he2, rfl, ⟨rfl, hv2⟩, hR2, hb2, hsg2, hsl2, hg2⟩)
  · exact ⟨rfl, .inl ⟨e, ch_err E1.out B1.out he, rfl, grown_trans G1.out hg⟩⟩
  have E2 := veil (ch_ok E1.out B1.out he2)
  have G2 := veil (grown_trans G1.out hg2)
  have Q2 := veil (Row.grown Q1.out hg2 (show w.heap.size ≠ g by omega))
  have B2 := veil hb2
  have D2 := veil hR2
  have M2 := veil (show s2.g = s.g ∧ s2.len ≤ s.len from ⟨hsg2.trans M1.out.1, Nat.le_trans hsl2 M1.out.2⟩)
  have V2 := veil hv2
  have hq2 : w.heap.size + 1 ≤ w2.heap.size := by have := hg2.size; omega
  clear he2 hg2 hb2 hR2 hsg2 hsl2 hv2
  gi_wp2_with fail
  refine ⟨trivial, (callsIn_wide.2 (rd_num g s2 tb (w2.alloc (.cells (akC n2 (.slice none 0 0)) 39)) (D2.out.below ((Below.refl _ w2).alloc (Nat.le_refl _) _)))).mono ?_⟩
  rintro x3 w3 (⟨e, he, rfl, hg⟩ | ⟨n3, r3, v3, s3, he3, rfl, ⟨rfl, hv3⟩, hR3, hb3, hsg3, hsl3, hg3⟩)
  · exact ⟨rfl, .inl ⟨e, ch_err E2.out B2.out he, rfl, grown_trans (grown_trans G2.out (grown_alloc (.cells (akC n2 (.slice none 0 0)) 39) (some g))) hg⟩⟩
  have E3 := veil (ch_ok E2.out B2.out he3)
  have AK := veil (show Ack w g w2.heap.size n2 tb s s3 (.slice none 0 0) w3 from ⟨hR3, hsg3.trans M2.out.1, Nat.le_trans hsl3 M2.out.2, Row.grown (Q2.out.alloc (.cells (akC n2 (.slice none 0 0)) 39)) hg3 (by omega), Row.grown (Row.new w2 39 (akC n2 (.slice none 0 0))) hg3 (by omega), grown_trans (grown_trans G2.out (grown_alloc (.cells (akC n2 (.slice none 0 0)) 39) (some g))) hg3, by omega, by omega, by omega, fun p => H.out.ok.lt p⟩)
  have B3 := veil hb3
  have OW := veil (show w3.ownsRow (w2.heap.size + 1) 44 2 (.slice none 0 0) ([] : List (Nat × Nat)).length (vr []) from World.ownsRow_nil _ _ _ _)
  clear he3 hg3 hb3 hR3 hsg3 hsl3 hv3 E0 E1 E2 R0 b0 Q1 Q2 G1 G2 D1 D2 B1 B2 M1 M2
  by_cases h64 : 64 ≤ n3
  · have f1 : decide ((64 : Int) ≤ (n3 : Int)) = true := by simp; omega
    have f1n : decide (64 ≤ n3) = true := by simp; omega
    have E4 := veil (show Fr.bodyP 2 s.b = .error 3 by rw [E3.out, if_pos h64]; rfl)
    clear h64
    gi_wp2_with fail
    exact ⟨rfl, .inl ⟨3, E4.out, rfl, AK.out.gro⟩⟩
  have f1 : decide ((64 : Int) ≤ (n3 : Int)) = false := by simp; omega
  have f1n : decide (64 ≤ n3) = false := by simp; omega
  have E4 := veil (show Fr.bodyP 2 s.b = Fr.thenR (Fr.ackLoop n3 n1) (fun l => Fr.okR { Fr.f0 with kind := 3, limit := n2, ranges := l.reverse }) s3.b by rw [E3.out, if_neg h64, B3.out])
  have TO := V1
  have HACC := veil (show ([] : List (Nat × Nat)).length ≤ 100 from Nat.zero_le _)
  have h63 : n3 ≤ 63 := by omega
  clear h64 E3
  gi_wp2_with fail
  refine wpIn_region_any (by kernel_rfl) ?_
  refine anyIn_spine (valKA g w2.heap.size n1 (.slice none 0 0)) (ackR5 w g w2.heap.size n2 tb n1 s s3 (.slice none 0 0) ([] : List (Nat × Nat))) undef [4, 5, 6, 8] [19, 20, 21, 22, 23, 24, 25, 26, 100000] depKA depKA (by kernel_rfl) (by decide) rfl (by decide) (by decide) ?aord (by decide) ⟨AK.out.keep ((Below.refl _ _).drew), OW.out⟩ ?afix ?acal ?adone
  case aord =>
    intro k i j hk hk1
    match k, hk, hk1 with
    | 0, hk, hk1 => obtain rfl := Option.some.inj hk; obtain rfl := Option.some.inj hk1; decide
    | 1, hk, hk1 => obtain rfl := Option.some.inj hk; obtain rfl := Option.some.inj hk1; decide
    | 2, hk, hk1 => obtain rfl := Option.some.inj hk; obtain rfl := Option.some.inj hk1; decide
    | 3, _, hk1 => simp at hk1
    | _ + 4, hk, _ => simp at hk
  case afix =>
    intro x W m ii d u hR hdi hni hdep hlo hhi
    have cell7 : ii = 1 → W.cell? ⟨w2.heap.size, 7, none⟩ = some (.slice none 0 0) := by
      intro h
      subst h
      have hm : m ≤ 2 := hhi 2 6 rfl (by decide)
      exact ackR5_cell hR (by omega)
    match ii, hdi, hdep with
    | 0, hdi, hdep =>
      obtain rfl := Option.some.inj hdi
      exact OI_value rfl rfl (about_none (by intro c h; cases h)) (by intro c h; cases h) (.pointer (some ⟨w2.heap.size, 7, none⟩)) W (by kernel_rfl) ⟨rfl, rfl⟩
    | 1, hdi, hdep =>
      obtain rfl := Option.some.inj hdi
      rw [updV_self (show x 0 = _ from hdep 0 (by simp [depKA]) (by decide))]
      exact OI_value rfl rfl (about_none (by intro c h; cases h)) (by intro c h; cases h) (.slice none 0 0) W (run_cellF 37 _ ⟨w2.heap.size, 7, none⟩ _ _ rfl (by kernel_rfl) Tryd.underlying37 rfl W (cell7 rfl)) ⟨rfl, rfl⟩
    | 2, hdi, hdep =>
      obtain rfl := Option.some.inj hdi
      exact OI_value rfl rfl (about_none (by intro c h; cases h)) (by intro c h; cases h) (.pointer (some ⟨g, 0, none⟩)) W (by kernel_rfl) ⟨rfl, rfl⟩
    | 3, hdi, hdep =>
      obtain rfl := Option.some.inj hdi
      exact OI_value rfl rfl (about_none (by intro c h; cases h)) (by intro c h; cases h) (.int .u64 (n1 : Int)) W (by kernel_rfl) ⟨rfl, rfl⟩
    | 4, _, _ => exact absurd (by decide) hni
    | 5, _, _ => exact absurd (by decide) hni
    | 6, _, _ => exact absurd (by decide) hni
    | 7, hdi, hdep =>
      obtain rfl := Option.some.inj hdi
      exact OI_value rfl rfl (about_none (by intro c h; cases h)) (by intro c h; cases h) (.pointer (some ⟨w2.heap.size, 7, none⟩)) W (by kernel_rfl) ⟨rfl, rfl⟩
    | 8, _, _ => exact absurd (by decide) hni
    | _ + 9, hdi, _ => simp at hdi
  case acal =>
    intro x W k ii d u hR hk hdi hdep hu0 hup
    match k, hk, hR, hup with
    | 0, hk, hR, _ =>
      obtain rfl := Option.some.inj hk
      obtain rfl := Option.some.inj hdi
      rw [updV_self (show x 2 = _ from hdep 2 (by simp [depKA]) (by decide)), updV_self (show updV x 2 _ 3 = _ from hdep 3 (by simp [depKA]) (by decide))]
      refine OI_callP rfl rfl (by intro c h; cases h) 52 #[.pointer (some ⟨g, 0, none⟩), .int .u64 ((n1 : Nat) : Int)] (fun _ _ => trivial) (by kernel_rfl) (by decide) ?_
      refine (callsIn_wide.2 (rd_range g s3 tb (n1) W hR.1.rd TO.out)).mono ?_
      rintro xx ww (⟨e, he, rfl, hg⟩ | ⟨r5, b5, v5, s5, he5, rfl, hv5, hR5, hb5, hsg5, hsl5, hg5⟩)
      · right
        exact ⟨_, rfl, rfl, .inl ⟨e, E4.out.trans (loop_err he), rfl, grown_trans hR.1.gro hg⟩⟩
      · left
        exact ⟨v5, rfl, v5, rfl, ackR5_1 hR he5 hv5 hR5 hb5 hsg5 hsl5 hg5⟩
    | 1, hk, hR, hup =>
      obtain rfl := Option.some.inj hk
      obtain rfl := Option.some.inj hdi
      obtain ⟨r, rest, s2, q1, q2, q3, q4, q5, q6⟩ := hR
      have hx : x 4 = u := hup 0 4 rfl rfl
      subst q6
      rw [updV_self hx]
      exact OI_value rfl rfl (about_none (by intro c h; cases h)) (by intro c h; cases h) (.slice (some ⟨W.heap.size, 0, none⟩) 1 1) (W.alloc (.cells (rC2 r) 44)) (by kernel_rfl) ⟨_, rfl, ackR5_2 ⟨r, rest, s2, q1, q2, q3, q4, q5, rfl⟩⟩
    | 2, hk, hR, hup =>
      obtain rfl := Option.some.inj hk
      obtain rfl := Option.some.inj hdi
      have hx : x 5 = u := hup 1 5 rfl rfl
      have hR' := hR
      obtain ⟨r, rest, s2, gN, q1, q2, q3, q4, q5, q6, q7⟩ := hR'
      subst q6
      rw [updV_self hx, updV_self (show updV x 5 _ 1 = _ from hdep 1 (by simp [depKA]) (by decide))]
      obtain ⟨v6, W6, hr6, h6⟩ := ackR5_3 HACC.out hR
      exact OI_value rfl rfl (about_builtin _ _ _ rfl) (by intro c h; cases h) v6 W6 (exec_append _ _ _ _ rfl _ _ (by kernel_rfl) (by kernel_rfl) v6 W6 hr6) ⟨_, rfl, h6⟩
    | 3, hk, hR, hup =>
      obtain rfl := Option.some.inj hk
      obtain rfl := Option.some.inj hdi
      have hx : x 6 = u := hup 2 6 rfl rfl
      obtain ⟨r, rest, s2, q1, q2, q3, q4, q5⟩ := hR
      obtain ⟨aV, cV, rfl⟩ := own_shapeR q5
      rw [updV_self hx, updV_self (show updV x 6 _ 7 = _ from hdep 7 (by simp [depKA]) (by decide))]
      refine OI_skip rfl rfl (about_none (by intro c h; cases h)) (by intro c h; cases h) (W.setCell ⟨w2.heap.size, 7, none⟩ (.slice aV (([] : List (Nat × Nat)) ++ [r]).length cV)) ?_ ?_
      · exact run_storeS 37 _ _ ⟨w2.heap.size, 7, none⟩ aV (([] : List (Nat × Nat)) ++ [r]).length cV _ rfl (by kernel_rfl) (by kernel_rfl) (by kernel_rfl) W (q4.rq.cell 7) (q4.rq.frozen 7)
      · refine ⟨undef, (put_none _ _).trans (put_far _ _ _ (by rw [puts_size]; exact Nat.le_of_ble_eq_true rfl)).symm, r, rest, s2, _, q1, q2, q3, q4.store _, ?_⟩
        exact own_setc q5 (Nat.lt_succ_self _)
    | _ + 4, hk, _, _ => simp at hk
  case adone =>
    intro x W u hR hx _
    obtain ⟨r, rest, s2, rv', q1, q2, q3, q4, q5⟩ := hR
    have z0 := hx 0 (by decide) (by decide)
    have z1 := hx 1 (by decide) (by decide)
    have z2 := hx 2 (by decide) (by decide)
    have z3 := hx 3 (by decide) (by decide)
    have z7 := hx 7 (by decide) (by decide)
    generalize x 4 = x4
    generalize x 5 = x5
    generalize x 6 = x6
    simp only [putsV, z0, z1, z2, z3, z7, valKA, Act.put, List.setIfInBounds_toArray, List.set_cons_succ, List.set_cons_zero, Nat.reduceAdd]
    clear z0 z1 z2 z3 z7 hx
    have ST := veil (show ∃ (acc : List (Nat × Nat)) (s' : SL) (rv : Value), acc.length = 0 + 1 ∧ Ack w g w2.heap.size n2 tb s s' rv W ∧ W.ownsRow (w2.heap.size + 1) 44 2 rv acc.length (vr acc) ∧ (∀ j, (gr acc j).1 ≤ 4611686018427387903 ∧ (gr acc j).2 ≤ 4611686018427387903) ∧ Fr.bodyP 2 s.b = Fr.thenR (ackTail (n3 - 0) (gr acc 0).1) (fun l => Fr.okR { Fr.f0 with kind := 3, limit := n2, ranges := (acc ++ l).reverse }) s'.b from
      ⟨[r], s2, rv', rfl, q4, q5, fun j => by
        have := V1.out
        cases j with
        | zero => show r.1 ≤ _ ∧ r.2 ≤ _; omega
        | succ j => show (0 : Nat) ≤ _ ∧ (0 : Nat) ≤ _; omega, by
        rw [E4.out, loop_ok q1, q2]
        rfl⟩)
    clear q1 q2 q3 q4 q5 AK OW E4 TO HACC
    gi_wp2_with fail
    gi_loopw [28] (fun i wr => ∃ k : Nat, k ≤ n3 ∧ i = .int .u64 (k : Int) ∧ ∃ (acc : List (Nat × Nat)) (s' : SL) (rv : Value), acc.length = k + 1 ∧ Ack w g w2.heap.size n2 tb s s' rv wr ∧ wr.ownsRow (w2.heap.size + 1) 44 2 rv acc.length (vr acc) ∧ (∀ j, (gr acc j).1 ≤ 4611686018427387903 ∧ (gr acc j).2 ≤ 4611686018427387903) ∧ Fr.bodyP 2 s.b = Fr.thenR (ackTail (n3 - k) (gr acc k).1) (fun l => Fr.okR { Fr.f0 with kind := 3, limit := n2, ranges := (acc ++ l).reverse }) s'.b)
      (fun i _ => n3 - (intOf i).toNat)
    case atStart => exact ⟨0, Nat.zero_le _, rfl, ST.out⟩
    case round =>
      clear ST
      obtain ⟨k, hk, rfl, acc, s', rv, hlen, hA, hO, hB, hE⟩ := hrel
      obtain ⟨aV, cV, rfl⟩ := own_shapeR hO
      obtain ⟨gB, hgB⟩ : ∃ gB, aV = some ⟨gB, 0, none⟩ := by
        rcases hO.2 with ⟨_, h0⟩ | ⟨gB, c, cur, h3, _⟩
        · omega
        · injection h3 with h3
          exact ⟨gB, h3⟩
      subst hgB
      rw [hlen] at hA hO
      have AK := veil hA
      have OW := veil hO
      have BD := veil hB
      have EE := veil hE
      have c7 : wr.cell? ⟨w2.heap.size, 7, none⟩ = some (.slice (some ⟨gB, 0, none⟩) (k + 1) cV) := hA.rq.cell 7
      clear hA hO hB hE
      by_cases hlt : k < n3
      · have hd : decide ((k : Int) < (n3 : Int)) = true := by simp; omega
        have hdn : decide (k < n3) = true := by simp; omega
        have cb := own_range OW.out hlen k (by omega) 0 _ rfl
        rw [Nat.zero_add, Nat.add_zero] at cb
        have hbl := (BD.out k).1
        obtain ⟨below, ebl⟩ : ∃ below, below = (gr acc k).1 := ⟨_, rfl⟩
        rw [← ebl] at cb hbl
        have EE2 := veil (show Fr.bodyP 2 s.b = Fr.thenR (ackTail (n3 - (k + 1) + 1) below) (fun l => Fr.okR { Fr.f0 with kind := 3, limit := n2, ranges := (acc ++ l).reverse }) s'.b by rw [EE.out, ebl, show n3 - k = n3 - (k + 1) + 1 by omega])
        have HLN := veil hlen
        have hk63 : k < 63 := by omega
        clear EE ebl
        gi_wp2_with fail
        clear c7 cb
        refine ⟨trivial, (callsIn_wide.2 (rd_num g s' tb wr AK.out.rd)).mono ?_⟩
        rintro x5 w5 (⟨e, he, rfl, hg⟩ | ⟨gap, r5, v5, s5, he5, rfl, ⟨rfl, hv5⟩, hR5, hb5, hsg5, hsl5, hg5⟩)
        · exact ⟨rfl, .inl ⟨e, EE2.out.trans (tail_err he), rfl, grown_trans AK.out.gro hg⟩⟩
        have AK5 := veil (AK.out.call hR5 hsg5 hsl5 hg5)
        have OW5 := veil (own_grown OW.out hg5 (by have := AK.out.ord; omega))
        have hw2 : IntKind.u64.wrap ((gap : Int) + 2) = (gap : Int) + 2 := by rw [IntKind.wrap_u64]; omega
        by_cases hgp : below < gap + 2
        · have f2 : decide ((below : Int) < (gap : Int) + 2) = true := by simp; omega
          have E6 := veil (EE2.out.trans (tail_no he5 hgp))
          clear hgp he5 hR5 hb5 hsg5 hsl5 hg5
          gi_wp2_with fail
          exact ⟨rfl, .inl ⟨5, E6.out, rfl, AK5.out.gro⟩⟩
        have f2 : decide ((below : Int) < (gap : Int) + 2) = false := by simp; omega
        have E6 := veil (show Fr.bodyP 2 s.b = Fr.thenR (Fr.ackLoop (n3 - (k + 1)) (below - gap - 2)) (fun l => Fr.okR { Fr.f0 with kind := 3, limit := n2, ranges := (acc ++ l).reverse }) s5.b by rw [EE2.out, tail_go he5 hgp, hb5])
        have hge : gap + 2 ≤ below := by omega
        clear hgp he5 hR5 hb5 hsg5 hsl5 hg5 EE2 AK OW
        have TO := veil (show below - gap - 2 ≤ 4611686018427387903 by omega)
        have HACC := veil (show acc.length ≤ 100 by have := HLN.out; omega)
        have AK := AK5
        have OW := veil (show w5.ownsRow (w2.heap.size + 1) 44 2 (.slice (some ⟨gB, 0, none⟩) (k + 1) cV) acc.length (vr acc) by rw [HLN.out]; exact OW5.out)
        clear AK5 OW5
        gi_wp2_with fail
        refine wpIn_region_any (by kernel_rfl) ?_
        refine anyIn_spine (valKB g w2.heap.size below gap (.slice (some ⟨gB, 0, none⟩) (k + 1) cV)) (ackR5 w g w2.heap.size n2 tb (below - gap - 2) s s5 (.slice (some ⟨gB, 0, none⟩) (k + 1) cV) acc) undef [7, 8, 9, 11] [44, 45, 46, 47, 48, 49, 50, 51, 52, 53, 54, 100000] depKB depKB (by kernel_rfl) (by decide) rfl (by decide) (by decide) ?bord (by decide) ⟨AK.out.keep ((Below.refl _ _).drew), OW.out⟩ ?bfix ?bcal ?bdone
        case bord =>
          intro k i j hk hk1
          match k, hk, hk1 with
          | 0, hk, hk1 => obtain rfl := Option.some.inj hk; obtain rfl := Option.some.inj hk1; decide
          | 1, hk, hk1 => obtain rfl := Option.some.inj hk; obtain rfl := Option.some.inj hk1; decide
          | 2, hk, hk1 => obtain rfl := Option.some.inj hk; obtain rfl := Option.some.inj hk1; decide
          | 3, _, hk1 => simp at hk1
          | _ + 4, hk, _ => simp at hk
        case bfix =>
          intro x W m ii d u hR hdi hni hdep hlo hhi
          have cell7 : ii = 1 → W.cell? ⟨w2.heap.size, 7, none⟩ = some (.slice (some ⟨gB, 0, none⟩) (k + 1) cV) := by
            intro h
            subst h
            have hm : m ≤ 2 := hhi 2 9 rfl (by decide)
            exact ackR5_cell hR (by omega)
          match ii, hdi, hdep with
          | 0, hdi, hdep =>
            obtain rfl := Option.some.inj hdi
            exact OI_value rfl rfl (about_none (by intro c h; cases h)) (by intro c h; cases h) (.pointer (some ⟨w2.heap.size, 7, none⟩)) W (by kernel_rfl) ⟨rfl, rfl⟩
          | 1, hdi, hdep =>
            obtain rfl := Option.some.inj hdi
            rw [updV_self (show x 0 = _ from hdep 0 (by simp [depKB]) (by decide))]
            exact OI_value rfl rfl (about_none (by intro c h; cases h)) (by intro c h; cases h) (.slice (some ⟨gB, 0, none⟩) (k + 1) cV) W (run_cellF 37 _ ⟨w2.heap.size, 7, none⟩ _ _ rfl (by kernel_rfl) Tryd.underlying37 rfl W (cell7 rfl)) ⟨rfl, rfl⟩
          | 2, hdi, hdep =>
            obtain rfl := Option.some.inj hdi
            exact OI_value rfl rfl (about_none (by intro c h; cases h)) (by intro c h; cases h) (.pointer (some ⟨g, 0, none⟩)) W (by kernel_rfl) ⟨rfl, rfl⟩
          | 3, hdi, hdep =>
            obtain rfl := Option.some.inj hdi
            exact OI_value rfl rfl (about_none (by intro c h; cases h)) (by intro c h; cases h) (.int .u64 (below : Int)) W (by kernel_rfl) ⟨rfl, rfl⟩
          | 4, hdi, hdep =>
            obtain rfl := Option.some.inj hdi
            exact OI_value rfl rfl (about_none (by intro c h; cases h)) (by intro c h; cases h) (.int .u64 (gap : Int)) W (by kernel_rfl) ⟨rfl, rfl⟩
          | 5, hdi, hdep =>
            obtain rfl := Option.some.inj hdi
            rw [updV_self (show x 3 = _ from hdep 3 (by simp [depKB]) (by decide)), updV_self (show updV x 3 _ 4 = _ from hdep 4 (by simp [depKB]) (by decide))]
            exact OI_value rfl rfl (about_none (by intro c h; cases h)) (by intro c h; cases h) _ W (run_subU2 _ _ _ _ below gap (by omega) (by omega) rfl (by kernel_rfl) (by kernel_rfl) W) ⟨rfl, rfl⟩
          | 6, hdi, hdep =>
            obtain rfl := Option.some.inj hdi
            rw [updV_self (show x 5 = _ from hdep 5 (by simp [depKB]) (by decide))]
            exact OI_value rfl rfl (about_none (by intro c h; cases h)) (by intro c h; cases h) _ W (run_subU2 _ _ _ _ (below - gap) 2 (by omega) (by omega) rfl (by kernel_rfl) (by kernel_rfl) W) ⟨rfl, rfl⟩
          | 7, _, _ => exact absurd (by decide) hni
          | 8, _, _ => exact absurd (by decide) hni
          | 9, _, _ => exact absurd (by decide) hni
          | 10, hdi, hdep =>
            obtain rfl := Option.some.inj hdi
            exact OI_value rfl rfl (about_none (by intro c h; cases h)) (by intro c h; cases h) (.pointer (some ⟨w2.heap.size, 7, none⟩)) W (by kernel_rfl) ⟨rfl, rfl⟩
          | 11, _, _ => exact absurd (by decide) hni
          | _ + 12, hdi, _ => simp at hdi
        case bcal =>
          intro x W kq ii d u hR hk hdi hdep hu0 hup
          match kq, hk, hR, hup with
          | 0, hk, hR, _ =>
            obtain rfl := Option.some.inj hk
            obtain rfl := Option.some.inj hdi
            rw [updV_self (show x 2 = _ from hdep 2 (by simp [depKB]) (by decide)), updV_self (show updV x 2 _ 6 = _ from hdep 6 (by simp [depKB]) (by decide))]
            refine OI_callP rfl rfl (by intro c h; cases h) 52 #[.pointer (some ⟨g, 0, none⟩), .int .u64 (((below - gap - 2) : Nat) : Int)] (fun _ _ => trivial) (by kernel_rfl) (by decide) ?_
            refine (callsIn_wide.2 (rd_range g s5 tb ((below - gap - 2)) W hR.1.rd TO.out)).mono ?_
            rintro xx ww (⟨e, he, rfl, hg⟩ | ⟨r5, b5, v5, s5, he5, rfl, hv5, hR5, hb5, hsg5, hsl5, hg5⟩)
            · right
              exact ⟨_, rfl, rfl, .inl ⟨e, E6.out.trans (loop_err he), rfl, grown_trans hR.1.gro hg⟩⟩
            · left
              exact ⟨v5, rfl, v5, rfl, ackR5_1 hR he5 hv5 hR5 hb5 hsg5 hsl5 hg5⟩
          | 1, hk, hR, hup =>
            obtain rfl := Option.some.inj hk
            obtain rfl := Option.some.inj hdi
            obtain ⟨r, rest, s2, q1, q2, q3, q4, q5, q6⟩ := hR
            have hx : x 7 = u := hup 0 7 rfl rfl
            subst q6
            rw [updV_self hx]
            exact OI_value rfl rfl (about_none (by intro c h; cases h)) (by intro c h; cases h) (.slice (some ⟨W.heap.size, 0, none⟩) 1 1) (W.alloc (.cells (rC2 r) 44)) (by kernel_rfl) ⟨_, rfl, ackR5_2 ⟨r, rest, s2, q1, q2, q3, q4, q5, rfl⟩⟩
          | 2, hk, hR, hup =>
            obtain rfl := Option.some.inj hk
            obtain rfl := Option.some.inj hdi
            have hx : x 8 = u := hup 1 8 rfl rfl
            have hR' := hR
            obtain ⟨r, rest, s2, gN, q1, q2, q3, q4, q5, q6, q7⟩ := hR'
            subst q6
            rw [updV_self hx, updV_self (show updV x 8 _ 1 = _ from hdep 1 (by simp [depKB]) (by decide))]
            obtain ⟨v6, W6, hr6, h6⟩ := ackR5_3 HACC.out hR
            exact OI_value rfl rfl (about_builtin _ _ _ rfl) (by intro c h; cases h) v6 W6 (exec_append _ _ _ _ rfl _ _ (by kernel_rfl) (by kernel_rfl) v6 W6 hr6) ⟨_, rfl, h6⟩
          | 3, hk, hR, hup =>
            obtain rfl := Option.some.inj hk
            obtain rfl := Option.some.inj hdi
            have hx : x 9 = u := hup 2 9 rfl rfl
            obtain ⟨r, rest, s2, q1, q2, q3, q4, q5⟩ := hR
            obtain ⟨aV, cV, rfl⟩ := own_shapeR q5
            rw [updV_self hx, updV_self (show updV x 9 _ 10 = _ from hdep 10 (by simp [depKB]) (by decide))]
            refine OI_skip rfl rfl (about_none (by intro c h; cases h)) (by intro c h; cases h) (W.setCell ⟨w2.heap.size, 7, none⟩ (.slice aV (acc ++ [r]).length cV)) ?_ ?_
            · exact run_storeS 37 _ _ ⟨w2.heap.size, 7, none⟩ aV (acc ++ [r]).length cV _ rfl (by kernel_rfl) (by kernel_rfl) (by kernel_rfl) W (q4.rq.cell 7) (q4.rq.frozen 7)
            · refine ⟨undef, (put_none _ _).trans (put_far _ _ _ (by rw [puts_size]; exact Nat.le_of_ble_eq_true rfl)).symm, r, rest, s2, _, q1, q2, q3, q4.store _, ?_⟩
              exact own_setc q5 (Nat.lt_succ_self _)
          | _ + 4, hk, _, _ => simp at hk
        case bdone =>
          intro x W u hR hx _
          obtain ⟨r, rest, s2, rv', q1, q2, q3, q4, q5⟩ := hR
          have z0 := hx 0 (by decide) (by decide)
          have z1 := hx 1 (by decide) (by decide)
          have z2 := hx 2 (by decide) (by decide)
          have z3 := hx 3 (by decide) (by decide)
          have z4 := hx 4 (by decide) (by decide)
          have z5 := hx 5 (by decide) (by decide)
          have z6 := hx 6 (by decide) (by decide)
          have z10 := hx 10 (by decide) (by decide)
          generalize x 7 = x7
          generalize x 8 = x8
          generalize x 9 = x9
          simp only [putsV, z0, z1, z2, z3, z4, z5, z6, z10, valKB, Act.put, List.setIfInBounds_toArray, List.set_cons_succ, List.set_cons_zero, Nat.reduceAdd]
          clear z0 z1 z2 z3 z4 z5 z6 z10 hx
          have STP := veil (show ∃ (acc' : List (Nat × Nat)) (s' : SL) (rv : Value), acc'.length = (k + 1) + 1 ∧ Ack w g w2.heap.size n2 tb s s' rv W ∧ W.ownsRow (w2.heap.size + 1) 44 2 rv acc'.length (vr acc') ∧ (∀ j, (gr acc' j).1 ≤ 4611686018427387903 ∧ (gr acc' j).2 ≤ 4611686018427387903) ∧ Fr.bodyP 2 s.b = Fr.thenR (ackTail (n3 - (k + 1)) (gr acc' (k + 1)).1) (fun l => Fr.okR { Fr.f0 with kind := 3, limit := n2, ranges := (acc' ++ l).reverse }) s'.b from
            ⟨acc ++ [r], s2, rv', by rw [List.length_append, HLN.out]; rfl, q4, q5, fun j => by
              rcases Nat.lt_trichotomy j acc.length with hj | hj | hj
              · have e : gr (acc ++ [r]) j = gr acc j := by unfold gr; rw [List.getElem?_append_left hj]
                rw [e]
                exact BD.out j
              · have e : gr (acc ++ [r]) j = r := by unfold gr; rw [hj, List.getElem?_append_right (Nat.le_refl _), Nat.sub_self]; rfl
                rw [e]
                have := TO.out
                omega
              · have e : gr (acc ++ [r]) j = (0, 0) := by unfold gr; rw [List.getElem?_eq_none (by rw [List.length_append]; simp only [List.length_cons, List.length_nil]; omega)]; rfl
                rw [e]
                exact ⟨Nat.zero_le _, Nat.zero_le _⟩, by
              have e : gr (acc ++ [r]) (k + 1) = r := by unfold gr; rw [← HLN.out, List.getElem?_append_right (Nat.le_refl _), Nat.sub_self]; rfl
              rw [E6.out, loop_ok q1, q2, e]
              simp only [List.append_assoc, List.cons_append, List.nil_append]⟩)
          clear q1 q2 q3 q4 q5 AK OW E6 TO HACC BD
          gi_wp2_with fail
          go_roundw
          case rel => exact ⟨k + 1, by omega, by go_num, STP.out⟩
          case measure => simp [intOf]; omega
      · obtain rfl : n3 = k := by omega
        have hd : decide ((n3 : Int) < (n3 : Int)) = false := by simp
        have hdn : decide (n3 < n3) = false := by simp
        have EF := veil (show Fr.bodyP 2 s.b = .ok ({ Fr.f0 with kind := 3, limit := n2, ranges := acc.reverse }, s'.b) by
          rw [EE.out, Nat.sub_self]
          show Fr.thenR (Fr.okR []) _ _ = _
          unfold Fr.thenR Fr.okR
          simp only [List.append_nil])
        have HLN := veil hlen
        clear EE
        gi_wp2_with fail
        refine ⟨trivial, (callsIn_wide.2 (fr_reverse (w2.heap.size + 1) (n3 + 1) gB cV acc wr HLN.out (by omega) OW.out)).mono ?_⟩
        rintro x6 w6 ⟨⟨u6, rfl⟩, hO6, hg6⟩
        have hgB : w2.heap.size + 1 ≤ gB := (OW.out.lt gB rfl).1
        have AK6 := veil (AK.out.keep (show Below (w2.heap.size + 1) wr w6 from ⟨hg6.os, hg6.tape, hg6.output, hg6.size, fun k hk => hg6.block k (Nat.lt_of_lt_of_le hk AK.out.qlt) (fun e => by have := Option.some.inj e; omega)⟩))
        have OW6 := veil hO6
        clear hO6 hg6 c7
        gi_wp2_with (first
          | (with_reducible (show wpListIn _ _ _ _ _ (⟨_, Op.load 39 _, _, _, _, _⟩ :: _) _ _)
             refine value_wpIn rfl (about_none (by intro c h; cases h)) (by intro c h; cases h) _ (run_midF 39 _ w2.heap.size 0 (akC n2 (.slice (some ⟨gB, 0, none⟩) (n3 + 1) cV)) _ rfl rfl Tryd.underlying39 rfl (by kernel_rfl) _ (range_row AK6.out.rq)) ?_)
          | (with_reducible (show wpListIn _ _ _ _ _ (⟨_, Op.store 39 _ _, _, _, _, _⟩ :: _) _ _)
             refine store_rowIn rfl 39 _ _ rfl w.heap.size (akC n2 (.slice (some ⟨gB, 0, none⟩) (n3 + 1) cV)) rfl rfl _ _ AK6.out.rh 8 (by kernel_rfl) rfl rfl (by kernel_rfl) ?_))
        refine bodyPost_ret (results_cell_row rfl _ _ w.heap.size _ (akC n2 (.slice (some ⟨gB, 0, none⟩) (n3 + 1) cV)) (0, 0) _ rfl (AK6.out.rh.put _) Tryd.underlying39 rfl (by kernel_rfl)) rfl ?_
        have OWN : World.ownsRow (w6.setRow w.heap.size (akC n2 (.slice (some ⟨gB, 0, none⟩) (n3 + 1) cV))) (w2.heap.size + 1) 44 2 (.slice (some ⟨gB, 0, none⟩) (n3 + 1) cV) (n3 + 1) (vr acc.reverse) := own_setr OW6.out (by have := AK6.out.ord; omega) _
        have hrl : acc.reverse.length = n3 + 1 := by rw [List.length_reverse]; exact HLN.out
        have BR : ∀ j, (gr acc.reverse j).1 ≤ 4611686018427387903 ∧ (gr acc.reverse j).2 ≤ 4611686018427387903 := by
          intro j
          by_cases hj : j < acc.length
          · rw [gr_rev acc j hj]; exact BD.out _
          · unfold gr
            rw [List.getElem?_eq_none (by rw [List.length_reverse]; omega)]
            exact ⟨Nat.zero_le _, Nat.zero_le _⟩
        have o := AK6.out.ord
        refine .inr ⟨_, _, _, s', EF.out, rfl, ⟨⟨3, 0, 0, n2, 0, false, noD, ⟨some ⟨gB, 0, none⟩, n3 + 1, cV, gB, 0, acc.reverse⟩⟩, rfl, ⟨World.ownsRow_nil _ _ _ _, noD_ok _, own_low2 OWN (by omega), rl_own OWN hrl (fun j => by have := BR j; omega), (show 3 < 256 by decide), Nat.zero_le _, Nat.zero_le _, V2.out, Nat.zero_le _⟩, rfl⟩, AK6.out.rd.put (by omega) (fun p => by have := AK6.out.low p; omega) (by omega) _, rfl, AK6.out.sg, AK6.out.sl, grown_put AK6.out.gro (Nat.le_refl _) _⟩
end Go.Proofs.YtjhgelhdhdcmfaaDoor
