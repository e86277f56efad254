/-
  Out of FrGetK, FrRows, FrBegin, FrCatch, FrFrames, FrDoor.
-/
import Derived.Test.YtimhbjlmpojhoaaGreatDoorGg3
import Derived.Test.YtimhbjlmpojhoaaGreatDoorGg4
import Derived.Test.YtimhbjlmpojhoaaGreatDoorGg2
import Derived.RecoverIn
import Derived.TacticsInMore

/-! frame's reader: ack (written by mkgetk.py). -/
namespace Go.Proofs.YtimhbjlmpojhoaaGreatDoor
open Go Go.RowKit

theorem run_subU2 {P : Program} {a : Act} {o : Oper} (t t' : TypeId) (x y : Operand) (m r : Nat) (hr : r ≤ m) (hm : m < 18446744073709551616) (ho : o.op = .binOp .sub t x y t') (hx : a.eval x = .int .u64 (m : Int)) (hy : a.eval y = .int .u64 (r : Int)) (W : World) :
    (execOp a.eval o).run P W = .ok (.value (.int .u64 ((m - r : Nat) : Int))) W := by
  have hw : IntKind.u64.wrap ((m : Int) - (r : Int)) = ((m - r : Nat) : Int) := by rw [IntKind.wrap_u64]; omega
  unfold execOp
  simp only [ho, hx, hy]
  go_simp
def depKA : Nat → List Nat
  | 1 => [0]
  | 4 => [2, 3]
  | 5 => [4]
  | 6 => [1, 5]
  | 8 => [6, 7]
  | _ => []
def valKA (g q to : Nat) (rv : Value) : Nat → Value
  | 0 => .pointer (some ⟨q, 7, none⟩)
  | 1 => rv
  | 2 => .pointer (some ⟨g, 0, none⟩)
  | 3 => .int .u64 (to : Int)
  | 7 => .pointer (some ⟨q, 7, none⟩)
  | _ => undef
def depKB : Nat → List Nat
  | 1 => [0]
  | 5 => [3, 4]
  | 6 => [5]
  | 7 => [2, 6]
  | 8 => [7]
  | 9 => [1, 8]
  | 11 => [9, 10]
  | _ => []
def valKB (g q below gap : Nat) (rv : Value) : Nat → Value
  | 0 => .pointer (some ⟨q, 7, none⟩)
  | 1 => rv
  | 2 => .pointer (some ⟨g, 0, none⟩)
  | 3 => .int .u64 (below : Int)
  | 4 => .int .u64 (gap : Int)
  | 5 => .int .u64 ((below - gap : Nat) : Int)
  | 6 => .int .u64 ((below - gap - 2 : Nat) : Int)
  | 10 => .pointer (some ⟨q, 7, none⟩)
  | _ => undef
/-- What the spine of a step brings about: the range, its block, the longer row, and that it is stored. -/
def ackR5 (w : World) (g q lim tb to : Nat) (s s' : SL) (rv : Value) (acc : List (Nat × Nat)) : Nat → World → Value → Prop
  | 0, W, _ => Ack w g q lim tb s s' rv W ∧ W.ownsRow (q + 1) 114 2 rv acc.length (vr acc)
  | 1, W, u => ∃ r rest, ∃ s2 : SL, rngR to s'.b = .ok (r, rest) ∧ s2.b = rest ∧ (r.1 ≤ r.2 ∧ r.2 = to) ∧ Ack w g q lim tb s s2 rv W ∧ W.ownsRow (q + 1) 114 2 rv acc.length (vr acc) ∧ u = .agg (rC2 r)
  | 2, W, u => ∃ r rest, ∃ (s2 : SL) (gN : Nat), rngR to s'.b = .ok (r, rest) ∧ s2.b = rest ∧ (r.1 ≤ r.2 ∧ r.2 = to) ∧ Ack w g q lim tb s s2 rv W ∧ W.ownsRow (q + 1) 114 2 rv acc.length (vr acc) ∧ u = .slice (some ⟨gN, 0, none⟩) 1 1 ∧ (∀ j v, (vr [r])[j]? = some v → W.cell? ((⟨gN, 0, none⟩ : Addr).add j) = some v)
  | 3, W, u => ∃ r rest, ∃ s2 : SL, rngR to s'.b = .ok (r, rest) ∧ s2.b = rest ∧ (r.1 ≤ r.2 ∧ r.2 = to) ∧ Ack w g q lim tb s s2 rv W ∧ W.ownsRow (q + 1) 114 2 u (acc ++ [r]).length (vr (acc ++ [r]))
  | _, W, _ => ∃ r rest, ∃ (s2 : SL) (rv' : Value), rngR to s'.b = .ok (r, rest) ∧ s2.b = rest ∧ (r.1 ≤ r.2 ∧ r.2 = to) ∧ Ack w g q lim tb s s2 rv' W ∧ W.ownsRow (q + 1) 114 2 rv' (acc ++ [r]).length (vr (acc ++ [r]))
theorem ackR5_cell {w W : World} {g q lim tb to m : Nat} {s s' : SL} {rv u : Value} {acc : List (Nat × Nat)} (h : ackR5 w g q lim tb to s s' rv acc m W u) (hm : m ≤ 3) : W.cell? ⟨q, 7, none⟩ = some rv := by
  match m, hm, h with
  | 0, _, h => exact h.1.rq.cell 7
  | 1, _, ⟨_, _, _, _, _, _, h, _⟩ => exact h.rq.cell 7
  | 2, _, ⟨_, _, _, _, _, _, _, h, _⟩ => exact h.rq.cell 7
  | 3, _, ⟨_, _, _, _, _, _, h, _⟩ => exact h.rq.cell 7
theorem ackR5_1 {w W W' : World} {g q lim tb to : Nat} {s s' s2 : SL} {rv u v : Value} {acc : List (Nat × Nat)} {r : Nat × Nat} {rest : List By} (h : ackR5 w g q lim tb to s s' rv acc 0 W u) (he : rngR to s'.b = .ok (r, rest)) (hv : v = .agg (rC2 r) ∧ r.1 ≤ r.2 ∧ r.2 = to) (hR : Rd W' g s2 tb) (hb : s2.b = rest) (hsg : s2.g = s'.g) (hsl : s2.len ≤ s'.len) (hg : W.grownBy W' (some g)) : ackR5 w g q lim tb to s s' rv acc 1 W' v :=
  ⟨r, rest, s2, he, hb, hv.2, h.1.call hR hsg hsl hg, own_grown h.2 hg (by have := h.1.ord; omega), hv.1⟩
theorem Ack.qlt {w Y : World} {g q lim tb : Nat} {s s' : SL} {rv : Value} (h : Ack w g q lim tb s s' rv Y) : q + 1 ≤ Y.heap.size := h.rq.lt
theorem ackR5_2 {w W : World} {g q lim tb to : Nat} {s s' : SL} {rv : Value} {acc : List (Nat × Nat)} {r : Nat × Nat} (h : ackR5 w g q lim tb to s s' rv acc 1 W (.agg (rC2 r))) : ackR5 w g q lim tb to s s' rv acc 2 (W.alloc (.cells (rC2 r) 114)) (.slice (some ⟨W.heap.size, 0, none⟩) 1 1) := by
  obtain ⟨r', rest, s2, h1, h2, h3, h4, h5, h6⟩ := h
  have e : r = r' := by
    injection h6 with h6
    have a0 : (Value.int .u64 (r.1 : Int)) = .int .u64 (r'.1 : Int) := by have := congrArg (fun a => a[0]?) h6; simpa [rC2] using this
    have a1 : (Value.int .u64 (r.2 : Int)) = .int .u64 (r'.2 : Int) := by have := congrArg (fun a => a[1]?) h6; simpa [rC2] using this
    injection a0 with _ a0
    injection a1 with _ a1
    exact Prod.ext (by omega) (by omega)
  subst e
  have b : Below W.heap.size W (W.alloc (.cells (rC2 r) 114)) := (Below.refl _ _).alloc (Nat.le_refl _) _
  exact ⟨r, rest, s2, W.heap.size, h1, h2, h3, h4.keep (b.mono h4.qlt), own_below2 h5 b, rfl, rC2_lit W r⟩
theorem ackR5_3 {w W : World} {g q lim tb to gN : Nat} {s s' : SL} {rv : Value} {acc : List (Nat × Nat)} (hacc : acc.length ≤ 100) (h : ackR5 w g q lim tb to s s' rv acc 2 W (.slice (some ⟨gN, 0, none⟩) 1 1)) :
    ∃ v' W', (Builtin.append_ #[35, 35] 35 #[rv, .slice (some ⟨gN, 0, none⟩) 1 1]).run Tryz.prog W = .ok v' W' ∧ ackR5 w g q lim tb to s s' rv acc 3 W' v' := by
  obtain ⟨i0, hi, hz0, hz1, hz2⟩ := range_info
  obtain ⟨r, rest, s2, gN', h1, h2, h3, h4, h5, h6, h7⟩ := h
  injection h6 with e
  injection e with e
  injection e with e
  subst e
  obtain ⟨v', W', hr, ho, hg, _⟩ := run_append_own (P := Tryz.prog) W (q + 1) 35 35 114 i0 (.agg (rC2 (0, 0))) 2 16 Tryz.underlying35 hi hz0 hz1 hz2 rfl (by decide) rv acc.length (vr acc) h5 ⟨gN, 0, none⟩ 1 1 (vr [r]) rfl h7 (vr_one _) (by unfold maxLen; omega) (by omega) h4.qlt
  have b : Below (q + 1) W W' := (Below.refl _ W).grown hg h4.qlt (fun p e => (h5.lt p e).1)
  refine ⟨v', W', hr, r, rest, s2, h1, h2, h3, h4.keep b, ?_⟩
  rw [vr_append, List.length_append]
  exact ho
theorem own_shapeR {w : World} {base n : Nat} {v : Value} {xs : List Value} (h : w.ownsRow base 114 2 v n xs) : ∃ a c, v = .slice a n c := by
  rcases h.2 with ⟨rfl, rfl⟩ | ⟨g, c, _, rfl, _⟩
  · exact ⟨none, 0, rfl⟩
  · exact ⟨_, c, rfl⟩

set_option maxRecDepth 20000 in
set_option maxHeartbeats 8000000 in
theorem rd_ack (g : Nat) (s : SL) (tb : Nat) (w : World) (h : Rd w g s tb) :
    Calls Tryz.prog 131 #[.pointer (some ⟨g, 0, none⟩)] w (RdPost w g s tb (Fr.bodyP 2) (frV w.heap.size)) := by
  have hgw := h.row.lt
  have hLl := h.lens.lt
  have H := veil h
  have b0 := veil ((Below.refl _ w).alloc (Nat.le_refl _) (.cells zF 37))
  have R0 := veil (Row.new w 37 zF)
  have E0 := veil (show Fr.bodyP 2 s.b = Fr.thenR Fr.numR (fun to => Fr.thenR Fr.numR fun lim => Fr.thenR Fr.numR fun n => if 64 ≤ n then Fr.noR 3 else Fr.thenR (Fr.ackLoop n to) fun l => Fr.okR { Fr.f0 with kind := 3, limit := lim, ranges := l.reverse }) s.b from rfl)
  clear h
  refine (callsIn_wide (n := 4)).1 ?_
  refine callsIn_of_wp Tryz.func131 rfl trivial ?_ rfl
  simp only [Tryz.ntmps131, List.size_toArray, List.length_cons, List.length_nil, Nat.reduceAdd, Nat.reduceSub, Array.replicate_succ, Array.replicate_zero, List.push_toArray, List.append_toArray, List.nil_append, List.cons_append]
  gi_wp2_with fail
  refine ⟨trivial, (callsIn_wide.2 (rd_num g s tb (w.alloc (.cells zF 37)) (H.out.below b0.out))).mono ?_⟩
  rintro x1 w1 (⟨e, he, rfl, hg⟩ | ⟨n1, r1, v1, s1, he1, rfl, ⟨rfl, hv1⟩, hR1, hb1, hsg1, hsl1, hg1⟩)
  · exact ⟨rfl, .inl ⟨e, ch_err E0.out rfl he, rfl, grown_trans (grown_alloc (.cells zF 37) (some g)) hg⟩⟩
  have E1 := veil (ch_ok E0.out rfl he1)
  have G1 := veil (grown_trans (grown_alloc (.cells zF 37) (some g)) hg1)
  have Q1 := veil (Row.grown R0.out hg1 (show w.heap.size ≠ g by omega))
  have B1 := veil hb1
  have D1 := veil hR1
  have M1 := veil (show s1.g = s.g ∧ s1.len ≤ s.len from ⟨hsg1, hsl1⟩)
  have V1 := veil hv1
  have hq1 : w.heap.size + 1 ≤ w1.heap.size := by have := hg1.size; simp at this; exact this
  clear he1 hg1 hb1 hR1 hsg1 hsl1 hv1
  gi_wp2_with fail
  refine ⟨trivial, (callsIn_wide.2 (rd_num g s1 tb w1 D1.out)).mono ?_⟩
  rintro x2 w2 (⟨e, he, rfl, hg⟩ | ⟨n2, r2, v2, s2, he2, rfl, ⟨rfl, hv2⟩, hR2, hb2, hsg2, hsl2, hg2⟩)
  · exact ⟨rfl, .inl ⟨e, ch_err E1.out B1.out he, rfl, grown_trans G1.out hg⟩⟩
  have E2 := veil (ch_ok E1.out B1.out he2)
  have G2 := veil (grown_trans G1.out hg2)
  have Q2 := veil (Row.grown Q1.out hg2 (show w.heap.size ≠ g by omega))
  have B2 := veil hb2
  have D2 := veil hR2
  have M2 := veil (show s2.g = s.g ∧ s2.len ≤ s.len from ⟨hsg2.trans M1.out.1, Nat.le_trans hsl2 M1.out.2⟩)
  have V2 := veil hv2
  have hq2 : w.heap.size + 1 ≤ w2.heap.size := by have := hg2.size; omega
  clear he2 hg2 hb2 hR2 hsg2 hsl2 hv2
  gi_wp2_with fail
  refine ⟨trivial, (callsIn_wide.2 (rd_num g s2 tb (w2.alloc (.cells (akC n2 (.slice none 0 0)) 37)) (D2.out.below ((Below.refl _ w2).alloc (Nat.le_refl _) _)))).mono ?_⟩
  rintro x3 w3 (⟨e, he, rfl, hg⟩ | ⟨n3, r3, v3, s3, he3, rfl, ⟨rfl, hv3⟩, hR3, hb3, hsg3, hsl3, hg3⟩)
  · exact ⟨rfl, .inl ⟨e, ch_err E2.out B2.out he, rfl, grown_trans (grown_trans G2.out (grown_alloc (.cells (akC n2 (.slice none 0 0)) 37) (some g))) hg⟩⟩
  have E3 := veil (ch_ok E2.out B2.out he3)
  have AK := veil (show Ack w g w2.heap.size n2 tb s s3 (.slice none 0 0) w3 from ⟨hR3, hsg3.trans M2.out.1, Nat.le_trans hsl3 M2.out.2, Row.grown (Q2.out.alloc (.cells (akC n2 (.slice none 0 0)) 37)) hg3 (by omega), Row.grown (Row.new w2 37 (akC n2 (.slice none 0 0))) hg3 (by omega), grown_trans (grown_trans G2.out (grown_alloc (.cells (akC n2 (.slice none 0 0)) 37) (some g))) hg3, by omega, by omega, by omega, fun p => H.out.ok.lt p⟩)
  have B3 := veil hb3
  have OW := veil (show w3.ownsRow (w2.heap.size + 1) 114 2 (.slice none 0 0) ([] : List (Nat × Nat)).length (vr []) from World.ownsRow_nil _ _ _ _)
  clear he3 hg3 hb3 hR3 hsg3 hsl3 hv3 E0 E1 E2 R0 b0 Q1 Q2 G1 G2 D1 D2 B1 B2 M1 M2
  by_cases h64 : 64 ≤ n3
  · have f1 : decide ((64 : Int) ≤ (n3 : Int)) = true := by simp; omega
    have f1n : decide (64 ≤ n3) = true := by simp; omega
    have E4 := veil (show Fr.bodyP 2 s.b = .error 3 by rw [E3.out, if_pos h64]; rfl)
    clear h64
    gi_wp2_with fail
    exact ⟨rfl, .inl ⟨3, E4.out, rfl, AK.out.gro⟩⟩
  have f1 : decide ((64 : Int) ≤ (n3 : Int)) = false := by simp; omega
  have f1n : decide (64 ≤ n3) = false := by simp; omega
  have E4 := veil (show Fr.bodyP 2 s.b = Fr.thenR (Fr.ackLoop n3 n1) (fun l => Fr.okR { Fr.f0 with kind := 3, limit := n2, ranges := l.reverse }) s3.b by rw [E3.out, if_neg h64, B3.out])
  have TO := V1
  have HACC := veil (show ([] : List (Nat × Nat)).length ≤ 100 from Nat.zero_le _)
  have h63 : n3 ≤ 63 := by omega
  clear h64 E3
  gi_wp2_with fail
  refine wpIn_region_any (by kernel_rfl) ?_
  refine anyIn_spine (valKA g w2.heap.size n1 (.slice none 0 0)) (ackR5 w g w2.heap.size n2 tb n1 s s3 (.slice none 0 0) ([] : List (Nat × Nat))) undef [4, 5, 6, 8] [19, 20, 21, 22, 23, 24, 25, 26, 100000] depKA depKA (by kernel_rfl) (by decide) rfl (by decide) (by decide) ?aord (by decide) ⟨AK.out.keep ((Below.refl _ _).drew), OW.out⟩ ?afix ?acal ?adone
  case aord =>
    intro k i j hk hk1
    match k, hk, hk1 with
    | 0, hk, hk1 => obtain rfl := Option.some.inj hk; obtain rfl := Option.some.inj hk1; decide
    | 1, hk, hk1 => obtain rfl := Option.some.inj hk; obtain rfl := Option.some.inj hk1; decide
    | 2, hk, hk1 => obtain rfl := Option.some.inj hk; obtain rfl := Option.some.inj hk1; decide
    | 3, _, hk1 => simp at hk1
    | _ + 4, hk, _ => simp at hk
  case afix =>
    intro x W m ii d u hR hdi hni hdep hlo hhi
    have cell7 : ii = 1 → W.cell? ⟨w2.heap.size, 7, none⟩ = some (.slice none 0 0) := by
      intro h
      subst h
      have hm : m ≤ 2 := hhi 2 6 rfl (by decide)
      exact ackR5_cell hR (by omega)
    match ii, hdi, hdep with
    | 0, hdi, hdep =>
      obtain rfl := Option.some.inj hdi
      exact OI_value rfl rfl (about_none (by intro c h; cases h)) (by intro c h; cases h) (.pointer (some ⟨w2.heap.size, 7, none⟩)) W (by kernel_rfl) ⟨rfl, rfl⟩
    | 1, hdi, hdep =>
      obtain rfl := Option.some.inj hdi
      rw [updV_self (show x 0 = _ from hdep 0 (by simp [depKA]) (by decide))]
      exact OI_value rfl rfl (about_none (by intro c h; cases h)) (by intro c h; cases h) (.slice none 0 0) W (run_cellF 35 _ ⟨w2.heap.size, 7, none⟩ _ _ rfl (by kernel_rfl) Tryz.underlying35 rfl W (cell7 rfl)) ⟨rfl, rfl⟩
    | 2, hdi, hdep =>
      obtain rfl := Option.some.inj hdi
      exact OI_value rfl rfl (about_none (by intro c h; cases h)) (by intro c h; cases h) (.pointer (some ⟨g, 0, none⟩)) W (by kernel_rfl) ⟨rfl, rfl⟩
    | 3, hdi, hdep =>
      obtain rfl := Option.some.inj hdi
      exact OI_value rfl rfl (about_none (by intro c h; cases h)) (by intro c h; cases h) (.int .u64 (n1 : Int)) W (by kernel_rfl) ⟨rfl, rfl⟩
    | 4, _, _ => exact absurd (by decide) hni
    | 5, _, _ => exact absurd (by decide) hni
    | 6, _, _ => exact absurd (by decide) hni
    | 7, hdi, hdep =>
      obtain rfl := Option.some.inj hdi
      exact OI_value rfl rfl (about_none (by intro c h; cases h)) (by intro c h; cases h) (.pointer (some ⟨w2.heap.size, 7, none⟩)) W (by kernel_rfl) ⟨rfl, rfl⟩
    | 8, _, _ => exact absurd (by decide) hni
    | _ + 9, hdi, _ => simp at hdi
  case acal =>
    intro x W k ii d u hR hk hdi hdep hu0 hup
    match k, hk, hR, hup with
    | 0, hk, hR, _ =>
      obtain rfl := Option.some.inj hk
      obtain rfl := Option.some.inj hdi
      rw [updV_self (show x 2 = _ from hdep 2 (by simp [depKA]) (by decide)), updV_self (show updV x 2 _ 3 = _ from hdep 3 (by simp [depKA]) (by decide))]
      refine OI_callP rfl rfl (by intro c h; cases h) 149 #[.pointer (some ⟨g, 0, none⟩), .int .u64 ((n1 : Nat) : Int)] (fun _ _ => trivial) (by kernel_rfl) (by decide) ?_
      refine (callsIn_wide.2 (rd_range g s3 tb (n1) W hR.1.rd TO.out)).mono ?_
      rintro xx ww (⟨e, he, rfl, hg⟩ | ⟨r5, b5, v5, s5, he5, rfl, hv5, hR5, hb5, hsg5, hsl5, hg5⟩)
      · right
        exact ⟨_, rfl, rfl, .inl ⟨e, E4.out.trans (loop_err he), rfl, grown_trans hR.1.gro hg⟩⟩
      · left
        exact ⟨v5, rfl, v5, rfl, ackR5_1 hR he5 hv5 hR5 hb5 hsg5 hsl5 hg5⟩
    | 1, hk, hR, hup =>
      obtain rfl := Option.some.inj hk
      obtain rfl := Option.some.inj hdi
      obtain ⟨r, rest, s2, q1, q2, q3, q4, q5, q6⟩ := hR
      have hx : x 4 = u := hup 0 4 rfl rfl
      subst q6
      rw [updV_self hx]
      exact OI_value rfl rfl (about_none (by intro c h; cases h)) (by intro c h; cases h) (.slice (some ⟨W.heap.size, 0, none⟩) 1 1) (W.alloc (.cells (rC2 r) 114)) (by kernel_rfl) ⟨_, rfl, ackR5_2 ⟨r, rest, s2, q1, q2, q3, q4, q5, rfl⟩⟩
    | 2, hk, hR, hup =>
      obtain rfl := Option.some.inj hk
      obtain rfl := Option.some.inj hdi
      have hx : x 5 = u := hup 1 5 rfl rfl
      have hR' := hR
      obtain ⟨r, rest, s2, gN, q1, q2, q3, q4, q5, q6, q7⟩ := hR'
      subst q6
      rw [updV_self hx, updV_self (show updV x 5 _ 1 = _ from hdep 1 (by simp [depKA]) (by decide))]
      obtain ⟨v6, W6, hr6, h6⟩ := ackR5_3 HACC.out hR
      exact OI_value rfl rfl (about_builtin _ _ _ rfl) (by intro c h; cases h) v6 W6 (exec_append _ _ _ _ rfl _ _ (by kernel_rfl) (by kernel_rfl) v6 W6 hr6) ⟨_, rfl, h6⟩
    | 3, hk, hR, hup =>
      obtain rfl := Option.some.inj hk
      obtain rfl := Option.some.inj hdi
      have hx : x 6 = u := hup 2 6 rfl rfl
      obtain ⟨r, rest, s2, q1, q2, q3, q4, q5⟩ := hR
      obtain ⟨aV, cV, rfl⟩ := own_shapeR q5
      rw [updV_self hx, updV_self (show updV x 6 _ 7 = _ from hdep 7 (by simp [depKA]) (by decide))]
      refine OI_skip rfl rfl (about_none (by intro c h; cases h)) (by intro c h; cases h) (W.setCell ⟨w2.heap.size, 7, none⟩ (.slice aV (([] : List (Nat × Nat)) ++ [r]).length cV)) ?_ ?_
      · exact run_storeS 35 _ _ ⟨w2.heap.size, 7, none⟩ aV (([] : List (Nat × Nat)) ++ [r]).length cV _ rfl (by kernel_rfl) (by kernel_rfl) (by kernel_rfl) W (q4.rq.cell 7) (q4.rq.frozen 7)
      · refine ⟨undef, (put_none _ _).trans (put_far _ _ _ (by rw [puts_size]; exact Nat.le_of_ble_eq_true rfl)).symm, r, rest, s2, _, q1, q2, q3, q4.store _, ?_⟩
        exact own_setc q5 (Nat.lt_succ_self _)
    | _ + 4, hk, _, _ => simp at hk
  case adone =>
    intro x W u hR hx _
    obtain ⟨r, rest, s2, rv', q1, q2, q3, q4, q5⟩ := hR
    have z0 := hx 0 (by decide) (by decide)
    have z1 := hx 1 (by decide) (by decide)
    have z2 := hx 2 (by decide) (by decide)
    have z3 := hx 3 (by decide) (by decide)
    have z7 := hx 7 (by decide) (by decide)
    generalize x 4 = x4
    generalize x 5 = x5
    generalize x 6 = x6
    simp only [putsV, z0, z1, z2, z3, z7, valKA, Act.put, List.setIfInBounds_toArray, List.set_cons_succ, List.set_cons_zero, Nat.reduceAdd]
    clear z0 z1 z2 z3 z7 hx
    have ST := veil (show ∃ (acc : List (Nat × Nat)) (s' : SL) (rv : Value), acc.length = 0 + 1 ∧ Ack w g w2.heap.size n2 tb s s' rv W ∧ W.ownsRow (w2.heap.size + 1) 114 2 rv acc.length (vr acc) ∧ (∀ j, (gr acc j).1 ≤ 4611686018427387903 ∧ (gr acc j).2 ≤ 4611686018427387903) ∧ Fr.bodyP 2 s.b = Fr.thenR (ackTail (n3 - 0) (gr acc 0).1) (fun l => Fr.okR { Fr.f0 with kind := 3, limit := n2, ranges := (acc ++ l).reverse }) s'.b from
      ⟨[r], s2, rv', rfl, q4, q5, fun j => by
        have := V1.out
        cases j with
        | zero => show r.1 ≤ _ ∧ r.2 ≤ _; omega
        | succ j => show (0 : Nat) ≤ _ ∧ (0 : Nat) ≤ _; omega, by
        rw [E4.out, loop_ok q1, q2]
        rfl⟩)
    clear q1 q2 q3 q4 q5 AK OW E4 TO HACC
    gi_wp2_with fail
    gi_loopw [28] (fun i wr => ∃ k : Nat, k ≤ n3 ∧ i = .int .u64 (k : Int) ∧ ∃ (acc : List (Nat × Nat)) (s' : SL) (rv : Value), acc.length = k + 1 ∧ Ack w g w2.heap.size n2 tb s s' rv wr ∧ wr.ownsRow (w2.heap.size + 1) 114 2 rv acc.length (vr acc) ∧ (∀ j, (gr acc j).1 ≤ 4611686018427387903 ∧ (gr acc j).2 ≤ 4611686018427387903) ∧ Fr.bodyP 2 s.b = Fr.thenR (ackTail (n3 - k) (gr acc k).1) (fun l => Fr.okR { Fr.f0 with kind := 3, limit := n2, ranges := (acc ++ l).reverse }) s'.b)
      (fun i _ => n3 - (intOf i).toNat)
    case atStart => exact ⟨0, Nat.zero_le _, rfl, ST.out⟩
    case round =>
      clear ST
      obtain ⟨k, hk, rfl, acc, s', rv, hlen, hA, hO, hB, hE⟩ := hrel
      obtain ⟨aV, cV, rfl⟩ := own_shapeR hO
      obtain ⟨gB, hgB⟩ : ∃ gB, aV = some ⟨gB, 0, none⟩ := by
        rcases hO.2 with ⟨_, h0⟩ | ⟨gB, c, cur, h3, _⟩
        · omega
        · injection h3 with h3
          exact ⟨gB, h3⟩
      subst hgB
      rw [hlen] at hA hO
      have AK := veil hA
      have OW := veil hO
      have BD := veil hB
      have EE := veil hE
      have c7 : wr.cell? ⟨w2.heap.size, 7, none⟩ = some (.slice (some ⟨gB, 0, none⟩) (k + 1) cV) := hA.rq.cell 7
      clear hA hO hB hE
      by_cases hlt : k < n3
      · have hd : decide ((k : Int) < (n3 : Int)) = true := by simp; omega
        have hdn : decide (k < n3) = true := by simp; omega
        have cb := own_range OW.out hlen k (by omega) 0 _ rfl
        rw [Nat.zero_add, Nat.add_zero] at cb
        have hbl := (BD.out k).1
        obtain ⟨below, ebl⟩ : ∃ below, below = (gr acc k).1 := ⟨_, rfl⟩
        rw [← ebl] at cb hbl
        have EE2 := veil (show Fr.bodyP 2 s.b = Fr.thenR (ackTail (n3 - (k + 1) + 1) below) (fun l => Fr.okR { Fr.f0 with kind := 3, limit := n2, ranges := (acc ++ l).reverse }) s'.b by rw [EE.out, ebl, show n3 - k = n3 - (k + 1) + 1 by omega])
        have HLN := veil hlen
        have hk63 : k < 63 := by omega
        clear EE ebl
        gi_wp2_with fail
        clear c7 cb
        refine ⟨trivial, (callsIn_wide.2 (rd_num g s' tb wr AK.out.rd)).mono ?_⟩
        rintro x5 w5 (⟨e, he, rfl, hg⟩ | ⟨gap, r5, v5, s5, he5, rfl, ⟨rfl, hv5⟩, hR5, hb5, hsg5, hsl5, hg5⟩)
        · exact ⟨rfl, .inl ⟨e, EE2.out.trans (tail_err he), rfl, grown_trans AK.out.gro hg⟩⟩
        have AK5 := veil (AK.out.call hR5 hsg5 hsl5 hg5)
        have OW5 := veil (own_grown OW.out hg5 (by have := AK.out.ord; omega))
        have hw2 : IntKind.u64.wrap ((gap : Int) + 2) = (gap : Int) + 2 := by rw [IntKind.wrap_u64]; omega
        by_cases hgp : below < gap + 2
        · have f2 : decide ((below : Int) < (gap : Int) + 2) = true := by simp; omega
          have E6 := veil (EE2.out.trans (tail_no he5 hgp))
          clear hgp he5 hR5 hb5 hsg5 hsl5 hg5
          gi_wp2_with fail
          exact ⟨rfl, .inl ⟨5, E6.out, rfl, AK5.out.gro⟩⟩
        have f2 : decide ((below : Int) < (gap : Int) + 2) = false := by simp; omega
        have E6 := veil (show Fr.bodyP 2 s.b = Fr.thenR (Fr.ackLoop (n3 - (k + 1)) (below - gap - 2)) (fun l => Fr.okR { Fr.f0 with kind := 3, limit := n2, ranges := (acc ++ l).reverse }) s5.b by rw [EE2.out, tail_go he5 hgp, hb5])
        have hge : gap + 2 ≤ below := by omega
        clear hgp he5 hR5 hb5 hsg5 hsl5 hg5 EE2 AK OW
        have TO := veil (show below - gap - 2 ≤ 4611686018427387903 by omega)
        have HACC := veil (show acc.length ≤ 100 by have := HLN.out; omega)
        have AK := AK5
        have OW := veil (show w5.ownsRow (w2.heap.size + 1) 114 2 (.slice (some ⟨gB, 0, none⟩) (k + 1) cV) acc.length (vr acc) by rw [HLN.out]; exact OW5.out)
        clear AK5 OW5
        gi_wp2_with fail
        refine wpIn_region_any (by kernel_rfl) ?_
        refine anyIn_spine (valKB g w2.heap.size below gap (.slice (some ⟨gB, 0, none⟩) (k + 1) cV)) (ackR5 w g w2.heap.size n2 tb (below - gap - 2) s s5 (.slice (some ⟨gB, 0, none⟩) (k + 1) cV) acc) undef [7, 8, 9, 11] [44, 45, 46, 47, 48, 49, 50, 51, 52, 53, 54, 100000] depKB depKB (by kernel_rfl) (by decide) rfl (by decide) (by decide) ?bord (by decide) ⟨AK.out.keep ((Below.refl _ _).drew), OW.out⟩ ?bfix ?bcal ?bdone
        case bord =>
          intro k i j hk hk1
          match k, hk, hk1 with
          | 0, hk, hk1 => obtain rfl := Option.some.inj hk; obtain rfl := Option.some.inj hk1; decide
          | 1, hk, hk1 => obtain rfl := Option.some.inj hk; obtain rfl := Option.some.inj hk1; decide
          | 2, hk, hk1 => obtain rfl := Option.some.inj hk; obtain rfl := Option.some.inj hk1; decide
          | 3, _, hk1 => simp at hk1
          | _ + 4, hk, _ => simp at hk
        case bfix =>
          intro x W m ii d u hR hdi hni hdep hlo hhi
          have cell7 : ii = 1 → W.cell? ⟨w2.heap.size, 7, none⟩ = some (.slice (some ⟨gB, 0, none⟩) (k + 1) cV) := by
            intro h
            subst h
            have hm : m ≤ 2 := hhi 2 9 rfl (by decide)
            exact ackR5_cell hR (by omega)
          match ii, hdi, hdep with
          | 0, hdi, hdep =>
            obtain rfl := Option.some.inj hdi
            exact OI_value rfl rfl (about_none (by intro c h; cases h)) (by intro c h; cases h) (.pointer (some ⟨w2.heap.size, 7, none⟩)) W (by kernel_rfl) ⟨rfl, rfl⟩
          | 1, hdi, hdep =>
            obtain rfl := Option.some.inj hdi
            rw [updV_self (show x 0 = _ from hdep 0 (by simp [depKB]) (by decide))]
            exact OI_value rfl rfl (about_none (by intro c h; cases h)) (by intro c h; cases h) (.slice (some ⟨gB, 0, none⟩) (k + 1) cV) W (run_cellF 35 _ ⟨w2.heap.size, 7, none⟩ _ _ rfl (by kernel_rfl) Tryz.underlying35 rfl W (cell7 rfl)) ⟨rfl, rfl⟩
          | 2, hdi, hdep =>
            obtain rfl := Option.some.inj hdi
            exact OI_value rfl rfl (about_none (by intro c h; cases h)) (by intro c h; cases h) (.pointer (some ⟨g, 0, none⟩)) W (by kernel_rfl) ⟨rfl, rfl⟩
          | 3, hdi, hdep =>
            obtain rfl := Option.some.inj hdi
            exact OI_value rfl rfl (about_none (by intro c h; cases h)) (by intro c h; cases h) (.int .u64 (below : Int)) W (by kernel_rfl) ⟨rfl, rfl⟩
          | 4, hdi, hdep =>
            obtain rfl := Option.some.inj hdi
            exact OI_value rfl rfl (about_none (by intro c h; cases h)) (by intro c h; cases h) (.int .u64 (gap : Int)) W (by kernel_rfl) ⟨rfl, rfl⟩
          | 5, hdi, hdep =>
            obtain rfl := Option.some.inj hdi
            rw [updV_self (show x 3 = _ from hdep 3 (by simp [depKB]) (by decide)), updV_self (show updV x 3 _ 4 = _ from hdep 4 (by simp [depKB]) (by decide))]
            exact OI_value rfl rfl (about_none (by intro c h; cases h)) (by intro c h; cases h) _ W (run_subU2 _ _ _ _ below gap (by omega) (by omega) rfl (by kernel_rfl) (by kernel_rfl) W) ⟨rfl, rfl⟩
          | 6, hdi, hdep =>
            obtain rfl := Option.some.inj hdi
            rw [updV_self (show x 5 = _ from hdep 5 (by simp [depKB]) (by decide))]
            exact OI_value rfl rfl (about_none (by intro c h; cases h)) (by intro c h; cases h) _ W (run_subU2 _ _ _ _ (below - gap) 2 (by omega) (by omega) rfl (by kernel_rfl) (by kernel_rfl) W) ⟨rfl, rfl⟩
          | 7, _, _ => exact absurd (by decide) hni
          | 8, _, _ => exact absurd (by decide) hni
          | 9, _, _ => exact absurd (by decide) hni
          | 10, hdi, hdep =>
            obtain rfl := Option.some.inj hdi
            exact OI_value rfl rfl (about_none (by intro c h; cases h)) (by intro c h; cases h) (.pointer (some ⟨w2.heap.size, 7, none⟩)) W (by kernel_rfl) ⟨rfl, rfl⟩
          | 11, _, _ => exact absurd (by decide) hni
          | _ + 12, hdi, _ => simp at hdi
        case bcal =>
          intro x W kq ii d u hR hk hdi hdep hu0 hup
          match kq, hk, hR, hup with
          | 0, hk, hR, _ =>
            obtain rfl := Option.some.inj hk
            obtain rfl := Option.some.inj hdi
            rw [updV_self (show x 2 = _ from hdep 2 (by simp [depKB]) (by decide)), updV_self (show updV x 2 _ 6 = _ from hdep 6 (by simp [depKB]) (by decide))]
            refine OI_callP rfl rfl (by intro c h; cases h) 149 #[.pointer (some ⟨g, 0, none⟩), .int .u64 (((below - gap - 2) : Nat) : Int)] (fun _ _ => trivial) (by kernel_rfl) (by decide) ?_
            refine (callsIn_wide.2 (rd_range g s5 tb ((below - gap - 2)) W hR.1.rd TO.out)).mono ?_
            rintro xx ww (⟨e, he, rfl, hg⟩ | ⟨r5, b5, v5, s5, he5, rfl, hv5, hR5, hb5, hsg5, hsl5, hg5⟩)
            · right
              exact ⟨_, rfl, rfl, .inl ⟨e, E6.out.trans (loop_err he), rfl, grown_trans hR.1.gro hg⟩⟩
            · left
              exact ⟨v5, rfl, v5, rfl, ackR5_1 hR he5 hv5 hR5 hb5 hsg5 hsl5 hg5⟩
          | 1, hk, hR, hup =>
            obtain rfl := Option.some.inj hk
            obtain rfl := Option.some.inj hdi
            obtain ⟨r, rest, s2, q1, q2, q3, q4, q5, q6⟩ := hR
            have hx : x 7 = u := hup 0 7 rfl rfl
            subst q6
            rw [updV_self hx]
            exact OI_value rfl rfl (about_none (by intro c h; cases h)) (by intro c h; cases h) (.slice (some ⟨W.heap.size, 0, none⟩) 1 1) (W.alloc (.cells (rC2 r) 114)) (by kernel_rfl) ⟨_, rfl, ackR5_2 ⟨r, rest, s2, q1, q2, q3, q4, q5, rfl⟩⟩
          | 2, hk, hR, hup =>
            obtain rfl := Option.some.inj hk
            obtain rfl := Option.some.inj hdi
            have hx : x 8 = u := hup 1 8 rfl rfl
            have hR' := hR
            obtain ⟨r, rest, s2, gN, q1, q2, q3, q4, q5, q6, q7⟩ := hR'
            subst q6
            rw [updV_self hx, updV_self (show updV x 8 _ 1 = _ from hdep 1 (by simp [depKB]) (by decide))]
            obtain ⟨v6, W6, hr6, h6⟩ := ackR5_3 HACC.out hR
            exact OI_value rfl rfl (about_builtin _ _ _ rfl) (by intro c h; cases h) v6 W6 (exec_append _ _ _ _ rfl _ _ (by kernel_rfl) (by kernel_rfl) v6 W6 hr6) ⟨_, rfl, h6⟩
          | 3, hk, hR, hup =>
            obtain rfl := Option.some.inj hk
            obtain rfl := Option.some.inj hdi
            have hx : x 9 = u := hup 2 9 rfl rfl
            obtain ⟨r, rest, s2, q1, q2, q3, q4, q5⟩ := hR
            obtain ⟨aV, cV, rfl⟩ := own_shapeR q5
            rw [updV_self hx, updV_self (show updV x 9 _ 10 = _ from hdep 10 (by simp [depKB]) (by decide))]
            refine OI_skip rfl rfl (about_none (by intro c h; cases h)) (by intro c h; cases h) (W.setCell ⟨w2.heap.size, 7, none⟩ (.slice aV (acc ++ [r]).length cV)) ?_ ?_
            · exact run_storeS 35 _ _ ⟨w2.heap.size, 7, none⟩ aV (acc ++ [r]).length cV _ rfl (by kernel_rfl) (by kernel_rfl) (by kernel_rfl) W (q4.rq.cell 7) (q4.rq.frozen 7)
            · refine ⟨undef, (put_none _ _).trans (put_far _ _ _ (by rw [puts_size]; exact Nat.le_of_ble_eq_true rfl)).symm, r, rest, s2, _, q1, q2, q3, q4.store _, ?_⟩
              exact own_setc q5 (Nat.lt_succ_self _)
          | _ + 4, hk, _, _ => simp at hk
        case bdone =>
          intro x W u hR hx _
          obtain ⟨r, rest, s2, rv', q1, q2, q3, q4, q5⟩ := hR
          have z0 := hx 0 (by decide) (by decide)
          have z1 := hx 1 (by decide) (by decide)
          have z2 := hx 2 (by decide) (by decide)
          have z3 := hx 3 (by decide) (by decide)
          have z4 := hx 4 (by decide) (by decide)
          have z5 := hx 5 (by decide) (by decide)
          have z6 := hx 6 (by decide) (by decide)
          have z10 := hx 10 (by decide) (by decide)
          generalize x 7 = x7
          generalize x 8 = x8
          generalize x 9 = x9
          simp only [putsV, z0, z1, z2, z3, z4, z5, z6, z10, valKB, Act.put, List.setIfInBounds_toArray, List.set_cons_succ, List.set_cons_zero, Nat.reduceAdd]
          clear z0 z1 z2 z3 z4 z5 z6 z10 hx
          have STP := veil (show ∃ (acc' : List (Nat × Nat)) (s' : SL) (rv : Value), acc'.length = (k + 1) + 1 ∧ Ack w g w2.heap.size n2 tb s s' rv W ∧ W.ownsRow (w2.heap.size + 1) 114 2 rv acc'.length (vr acc') ∧ (∀ j, (gr acc' j).1 ≤ 4611686018427387903 ∧ (gr acc' j).2 ≤ 4611686018427387903) ∧ Fr.bodyP 2 s.b = Fr.thenR (ackTail (n3 - (k + 1)) (gr acc' (k + 1)).1) (fun l => Fr.okR { Fr.f0 with kind := 3, limit := n2, ranges := (acc' ++ l).reverse }) s'.b from
            ⟨acc ++ [r], s2, rv', by rw [List.length_append, HLN.out]; rfl, q4, q5, fun j => by
              rcases Nat.lt_trichotomy j acc.length with hj | hj | hj
              · have e : gr (acc ++ [r]) j = gr acc j := by unfold gr; rw [List.getElem?_append_left hj]
                rw [e]
                exact BD.out j
              · have e : gr (acc ++ [r]) j = r := by unfold gr; rw [hj, List.getElem?_append_right (Nat.le_refl _), Nat.sub_self]; rfl
                rw [e]
                have := TO.out
                omega
              · have e : gr (acc ++ [r]) j = (0, 0) := by unfold gr; rw [List.getElem?_eq_none (by rw [List.length_append]; simp only [List.length_cons, List.length_nil]; omega)]; rfl
                rw [e]
                exact ⟨Nat.zero_le _, Nat.zero_le _⟩, by
              have e : gr (acc ++ [r]) (k + 1) = r := by unfold gr; rw [← HLN.out, List.getElem?_append_right (Nat.le_refl _), Nat.sub_self]; rfl
              rw [E6.out, loop_ok q1, q2, e]
              simp only [List.append_assoc, List.cons_append, List.nil_append]⟩)
          clear q1 q2 q3 q4 q5 AK OW E6 TO HACC BD
          gi_wp2_with fail
          go_roundw
          case rel => exact ⟨k + 1, by omega, by go_num, STP.out⟩
          case measure => simp [intOf]; omega
      · obtain rfl : n3 = k := by omega
        have hd : decide ((n3 : Int) < (n3 : Int)) = false := by simp
        have hdn : decide (n3 < n3) = false := by simp
        have EF := veil (show Fr.bodyP 2 s.b = .ok ({ Fr.f0 with kind := 3, limit := n2, ranges := acc.reverse }, s'.b) by
          rw [EE.out, Nat.sub_self]
          show Fr.thenR (Fr.okR []) _ _ = _
          unfold Fr.thenR Fr.okR
          simp only [List.append_nil])
        have HLN := veil hlen
        clear EE
        gi_wp2_with fail
        refine ⟨trivial, (callsIn_wide.2 (fr_reverse (w2.heap.size + 1) (n3 + 1) gB cV acc wr HLN.out (by omega) OW.out)).mono ?_⟩
        rintro x6 w6 ⟨⟨u6, rfl⟩, hO6, hg6⟩
        have hgB : w2.heap.size + 1 ≤ gB := (OW.out.lt gB rfl).1
        have AK6 := veil (AK.out.keep (show Below (w2.heap.size + 1) wr w6 from ⟨hg6.os, hg6.tape, hg6.output, hg6.size, fun k hk => hg6.block k (Nat.lt_of_lt_of_le hk AK.out.qlt) (fun e => by have := Option.some.inj e; omega)⟩))
        have OW6 := veil hO6
        clear hO6 hg6 c7
        gi_wp2_with (first
          | (with_reducible (show wpListIn _ _ _ _ _ (⟨_, Op.load 37 _, _, _, _, _⟩ :: _) _ _)
             refine value_wpIn rfl (about_none (by intro c h; cases h)) (by intro c h; cases h) _ (run_midF 37 _ w2.heap.size 0 (akC n2 (.slice (some ⟨gB, 0, none⟩) (n3 + 1) cV)) _ rfl rfl Tryz.underlying37 rfl (by kernel_rfl) _ (range_row AK6.out.rq)) ?_)
          | (with_reducible (show wpListIn _ _ _ _ _ (⟨_, Op.store 37 _ _, _, _, _, _⟩ :: _) _ _)
             refine store_rowIn rfl 37 _ _ rfl w.heap.size (akC n2 (.slice (some ⟨gB, 0, none⟩) (n3 + 1) cV)) rfl rfl _ _ AK6.out.rh 8 (by kernel_rfl) rfl rfl (by kernel_rfl) ?_))
        refine bodyPost_ret (results_cell_row rfl _ _ w.heap.size _ (akC n2 (.slice (some ⟨gB, 0, none⟩) (n3 + 1) cV)) (0, 0) _ rfl (AK6.out.rh.put _) Tryz.underlying37 rfl (by kernel_rfl)) rfl ?_
        have OWN : World.ownsRow (w6.setRow w.heap.size (akC n2 (.slice (some ⟨gB, 0, none⟩) (n3 + 1) cV))) (w2.heap.size + 1) 114 2 (.slice (some ⟨gB, 0, none⟩) (n3 + 1) cV) (n3 + 1) (vr acc.reverse) := own_setr OW6.out (by have := AK6.out.ord; omega) _
        have hrl : acc.reverse.length = n3 + 1 := by rw [List.length_reverse]; exact HLN.out
        have BR : ∀ j, (gr acc.reverse j).1 ≤ 4611686018427387903 ∧ (gr acc.reverse j).2 ≤ 4611686018427387903 := by
          intro j
          by_cases hj : j < acc.length
          · rw [gr_rev acc j hj]; exact BD.out _
          · unfold gr
            rw [List.getElem?_eq_none (by rw [List.length_reverse]; omega)]
            exact ⟨Nat.zero_le _, Nat.zero_le _⟩
        have o := AK6.out.ord
        refine .inr ⟨_, _, _, s', EF.out, rfl, ⟨⟨3, 0, 0, n2, 0, false, noD, ⟨some ⟨gB, 0, none⟩, n3 + 1, cV, gB, 0, acc.reverse⟩⟩, rfl, ⟨World.ownsRow_nil _ _ _ _, noD_ok _, own_low2 OWN (by omega), rl_own OWN hrl (fun j => by have := BR j; omega), (show 3 < 256 by decide), Nat.zero_le _, Nat.zero_le _, V2.out, Nat.zero_le _⟩, rfl⟩, AK6.out.rd.put (by omega) (fun p => by have := AK6.out.low p; omega) (by omega) _, rfl, AK6.out.sg, AK6.out.sl, grown_put AK6.out.gro (Nat.le_refl _) _⟩
end Go.Proofs.YtimhbjlmpojhoaaGreatDoor

/-! frame's reader: rows, begin, and what reads the rest of a frame (written by mkrows.py). -/
namespace Go.Proofs.YtimhbjlmpojhoaaGreatDoor
open Go Go.RowKit

def rows15 : List (Nat × Nat) := [(0, 129), (1, 130), (2, 131), (4, 132), (5, 133), (6, 134), (16, 135), (17, 136), (18, 137), (19, 137), (20, 138), (21, 139), (28, 140), (29, 140), (30, 141)]
def strL (k : Nat) : List (Nat × Nat) := (List.range k).map fun i => (8 + i, 142)
theorem strL_succ (k : Nat) : strL (k + 1) = strL k ++ [(8 + k, 142)] := by unfold strL; rw [List.range_succ, List.map_append]; rfl
def rowsL (k : Nat) : List (Nat × Nat) := rows15 ++ strL k
theorem rowsL_succ (k : Nat) : rowsL (k + 1) = rowsL k ++ [(8 + k, 142)] := by unfold rowsL; rw [strL_succ, List.append_assoc]
theorem rows_no (k : Nat) (hk : k < 8) : ∀ p ∈ rowsL k, p.1 ≠ 8 + k := by
  have : ∀ k : Fin 8, ∀ p ∈ rowsL k.val, p.1 ≠ 8 + k.val := by decide +kernel
  exact this ⟨k, hk⟩
theorem or_8 : ∀ k : Fin 8, bits .or .u64 8 (k.val : Int) = ((8 + k.val : Nat) : Int) := by decide +kernel

set_option maxRecDepth 20000 in
set_option maxHeartbeats 4000000 in
theorem rd_rows (g : Nat) (w : World) :
    Calls Tryz.prog 115 #[.pointer (some ⟨g, 0, none⟩)] w fun e w' => e = .returned (.map (some w.heap.size)) ∧ MapIs w' w.heap.size g (rowsL 8) ∧ Below w.heap.size w w' := by
  have hmf : ∀ (fn : Fn) (first cap : Array Value) (w : World), (Instr.makeFunc fn first cap).run Tryz.prog w = .ok (.func fn first cap) w := fun _ _ _ _ => rfl
  have hmm : ∀ w : World, (Instr.makeMap 162 none).run Tryz.prog w = .ok (.map (some w.heap.size)) (w.alloc (.map #[] 0)) := fun w => by simp only [Instr.makeMap, Sem.run_bind, run_newObj_alloc, Result.andThen_ok, Sem.run_pure]
  have M0 := veil (show MapIs (w.alloc (.map #[] 0)) w.heap.size g [] from _root_.Go.heap_alloc_new w _)
  have B0 := veil (show Below w.heap.size w (w.alloc (.map #[] 0)) from (Below.refl _ w).alloc (Nat.le_refl _) _)
  go_enter Tryz.func115, Tryz.ntmps115
  go_wp2_with (first
    | (with_reducible (show wpList _ _ _ (⟨none, Op.insert _ _ (Operand.const (Value.int .u64 0)) _, _, _, _, _⟩ :: _) _ _)
       refine insert_wp rfl 162 34 77 _ _ _ (.inl rfl) Tryz.underlying162 Tryz.underlying34 w.heap.size g 0 129 [] rfl rfl rfl M0.out (by decide) ?_
       intro W1 hm hg
       have M1 := veil (show MapIs W1 w.heap.size g [(0, 129)] from hm)
       have B1 := veil (B0.out.trans (show Below w.heap.size (w.alloc (.map #[] 0)) W1 from ⟨hg.os, hg.tape, hg.output, hg.size, fun k hk => hg.block k (Nat.lt_of_lt_of_le hk B0.out.size) (fun e => by have := Option.some.inj e; omega)⟩))
       clear hm hg M0 B0)
    | (with_reducible (show wpList _ _ _ (⟨none, Op.insert _ _ (Operand.const (Value.int .u64 1)) _, _, _, _, _⟩ :: _) _ _)
       refine insert_wp rfl 162 34 77 _ _ _ (.inl rfl) Tryz.underlying162 Tryz.underlying34 w.heap.size g 1 130 [(0, 129)] rfl rfl rfl M1.out (by decide) ?_
       intro W2 hm hg
       have M2 := veil (show MapIs W2 w.heap.size g [(0, 129), (1, 130)] from hm)
       have B2 := veil (B1.out.trans (show Below w.heap.size W1 W2 from ⟨hg.os, hg.tape, hg.output, hg.size, fun k hk => hg.block k (Nat.lt_of_lt_of_le hk B1.out.size) (fun e => by have := Option.some.inj e; omega)⟩))
       clear hm hg M1 B1)
    | (with_reducible (show wpList _ _ _ (⟨none, Op.insert _ _ (Operand.const (Value.int .u64 2)) _, _, _, _, _⟩ :: _) _ _)
       refine insert_wp rfl 162 34 77 _ _ _ (.inl rfl) Tryz.underlying162 Tryz.underlying34 w.heap.size g 2 131 [(0, 129), (1, 130)] rfl rfl rfl M2.out (by decide) ?_
       intro W3 hm hg
       have M3 := veil (show MapIs W3 w.heap.size g [(0, 129), (1, 130), (2, 131)] from hm)
       have B3 := veil (B2.out.trans (show Below w.heap.size W2 W3 from ⟨hg.os, hg.tape, hg.output, hg.size, fun k hk => hg.block k (Nat.lt_of_lt_of_le hk B2.out.size) (fun e => by have := Option.some.inj e; omega)⟩))
       clear hm hg M2 B2)
    | (with_reducible (show wpList _ _ _ (⟨none, Op.insert _ _ (Operand.const (Value.int .u64 4)) _, _, _, _, _⟩ :: _) _ _)
       refine insert_wp rfl 162 34 77 _ _ _ (.inl rfl) Tryz.underlying162 Tryz.underlying34 w.heap.size g 4 132 [(0, 129), (1, 130), (2, 131)] rfl rfl rfl M3.out (by decide) ?_
       intro W4 hm hg
       have M4 := veil (show MapIs W4 w.heap.size g [(0, 129), (1, 130), (2, 131), (4, 132)] from hm)
       have B4 := veil (B3.out.trans (show Below w.heap.size W3 W4 from ⟨hg.os, hg.tape, hg.output, hg.size, fun k hk => hg.block k (Nat.lt_of_lt_of_le hk B3.out.size) (fun e => by have := Option.some.inj e; omega)⟩))
       clear hm hg M3 B3)
    | (with_reducible (show wpList _ _ _ (⟨none, Op.insert _ _ (Operand.const (Value.int .u64 5)) _, _, _, _, _⟩ :: _) _ _)
       refine insert_wp rfl 162 34 77 _ _ _ (.inl rfl) Tryz.underlying162 Tryz.underlying34 w.heap.size g 5 133 [(0, 129), (1, 130), (2, 131), (4, 132)] rfl rfl rfl M4.out (by decide) ?_
       intro W5 hm hg
       have M5 := veil (show MapIs W5 w.heap.size g [(0, 129), (1, 130), (2, 131), (4, 132), (5, 133)] from hm)
       have B5 := veil (B4.out.trans (show Below w.heap.size W4 W5 from ⟨hg.os, hg.tape, hg.output, hg.size, fun k hk => hg.block k (Nat.lt_of_lt_of_le hk B4.out.size) (fun e => by have := Option.some.inj e; omega)⟩))
       clear hm hg M4 B4)
    | (with_reducible (show wpList _ _ _ (⟨none, Op.insert _ _ (Operand.const (Value.int .u64 6)) _, _, _, _, _⟩ :: _) _ _)
       refine insert_wp rfl 162 34 77 _ _ _ (.inl rfl) Tryz.underlying162 Tryz.underlying34 w.heap.size g 6 134 [(0, 129), (1, 130), (2, 131), (4, 132), (5, 133)] rfl rfl rfl M5.out (by decide) ?_
       intro W6 hm hg
       have M6 := veil (show MapIs W6 w.heap.size g [(0, 129), (1, 130), (2, 131), (4, 132), (5, 133), (6, 134)] from hm)
       have B6 := veil (B5.out.trans (show Below w.heap.size W5 W6 from ⟨hg.os, hg.tape, hg.output, hg.size, fun k hk => hg.block k (Nat.lt_of_lt_of_le hk B5.out.size) (fun e => by have := Option.some.inj e; omega)⟩))
       clear hm hg M5 B5)
    | (with_reducible (show wpList _ _ _ (⟨none, Op.insert _ _ (Operand.const (Value.int .u64 16)) _, _, _, _, _⟩ :: _) _ _)
       refine insert_wp rfl 162 34 77 _ _ _ (.inl rfl) Tryz.underlying162 Tryz.underlying34 w.heap.size g 16 135 [(0, 129), (1, 130), (2, 131), (4, 132), (5, 133), (6, 134)] rfl rfl rfl M6.out (by decide) ?_
       intro W7 hm hg
       have M7 := veil (show MapIs W7 w.heap.size g [(0, 129), (1, 130), (2, 131), (4, 132), (5, 133), (6, 134), (16, 135)] from hm)
       have B7 := veil (B6.out.trans (show Below w.heap.size W6 W7 from ⟨hg.os, hg.tape, hg.output, hg.size, fun k hk => hg.block k (Nat.lt_of_lt_of_le hk B6.out.size) (fun e => by have := Option.some.inj e; omega)⟩))
       clear hm hg M6 B6)
    | (with_reducible (show wpList _ _ _ (⟨none, Op.insert _ _ (Operand.const (Value.int .u64 17)) _, _, _, _, _⟩ :: _) _ _)
       refine insert_wp rfl 162 34 77 _ _ _ (.inl rfl) Tryz.underlying162 Tryz.underlying34 w.heap.size g 17 136 [(0, 129), (1, 130), (2, 131), (4, 132), (5, 133), (6, 134), (16, 135)] rfl rfl rfl M7.out (by decide) ?_
       intro W8 hm hg
       have M8 := veil (show MapIs W8 w.heap.size g [(0, 129), (1, 130), (2, 131), (4, 132), (5, 133), (6, 134), (16, 135), (17, 136)] from hm)
       have B8 := veil (B7.out.trans (show Below w.heap.size W7 W8 from ⟨hg.os, hg.tape, hg.output, hg.size, fun k hk => hg.block k (Nat.lt_of_lt_of_le hk B7.out.size) (fun e => by have := Option.some.inj e; omega)⟩))
       clear hm hg M7 B7)
    | (with_reducible (show wpList _ _ _ (⟨none, Op.insert _ _ (Operand.const (Value.int .u64 18)) _, _, _, _, _⟩ :: _) _ _)
       refine insert_wp rfl 162 34 77 _ _ _ (.inl rfl) Tryz.underlying162 Tryz.underlying34 w.heap.size g 18 137 [(0, 129), (1, 130), (2, 131), (4, 132), (5, 133), (6, 134), (16, 135), (17, 136)] rfl rfl rfl M8.out (by decide) ?_
       intro W9 hm hg
       have M9 := veil (show MapIs W9 w.heap.size g [(0, 129), (1, 130), (2, 131), (4, 132), (5, 133), (6, 134), (16, 135), (17, 136), (18, 137)] from hm)
       have B9 := veil (B8.out.trans (show Below w.heap.size W8 W9 from ⟨hg.os, hg.tape, hg.output, hg.size, fun k hk => hg.block k (Nat.lt_of_lt_of_le hk B8.out.size) (fun e => by have := Option.some.inj e; omega)⟩))
       clear hm hg M8 B8)
    | (with_reducible (show wpList _ _ _ (⟨none, Op.insert _ _ (Operand.const (Value.int .u64 19)) _, _, _, _, _⟩ :: _) _ _)
       refine insert_wp rfl 162 34 77 _ _ _ (.inl rfl) Tryz.underlying162 Tryz.underlying34 w.heap.size g 19 137 [(0, 129), (1, 130), (2, 131), (4, 132), (5, 133), (6, 134), (16, 135), (17, 136), (18, 137)] rfl rfl rfl M9.out (by decide) ?_
       intro W10 hm hg
       have M10 := veil (show MapIs W10 w.heap.size g [(0, 129), (1, 130), (2, 131), (4, 132), (5, 133), (6, 134), (16, 135), (17, 136), (18, 137), (19, 137)] from hm)
       have B10 := veil (B9.out.trans (show Below w.heap.size W9 W10 from ⟨hg.os, hg.tape, hg.output, hg.size, fun k hk => hg.block k (Nat.lt_of_lt_of_le hk B9.out.size) (fun e => by have := Option.some.inj e; omega)⟩))
       clear hm hg M9 B9)
    | (with_reducible (show wpList _ _ _ (⟨none, Op.insert _ _ (Operand.const (Value.int .u64 20)) _, _, _, _, _⟩ :: _) _ _)
       refine insert_wp rfl 162 34 77 _ _ _ (.inl rfl) Tryz.underlying162 Tryz.underlying34 w.heap.size g 20 138 [(0, 129), (1, 130), (2, 131), (4, 132), (5, 133), (6, 134), (16, 135), (17, 136), (18, 137), (19, 137)] rfl rfl rfl M10.out (by decide) ?_
       intro W11 hm hg
       have M11 := veil (show MapIs W11 w.heap.size g [(0, 129), (1, 130), (2, 131), (4, 132), (5, 133), (6, 134), (16, 135), (17, 136), (18, 137), (19, 137), (20, 138)] from hm)
       have B11 := veil (B10.out.trans (show Below w.heap.size W10 W11 from ⟨hg.os, hg.tape, hg.output, hg.size, fun k hk => hg.block k (Nat.lt_of_lt_of_le hk B10.out.size) (fun e => by have := Option.some.inj e; omega)⟩))
       clear hm hg M10 B10)
    | (with_reducible (show wpList _ _ _ (⟨none, Op.insert _ _ (Operand.const (Value.int .u64 21)) _, _, _, _, _⟩ :: _) _ _)
       refine insert_wp rfl 162 34 77 _ _ _ (.inl rfl) Tryz.underlying162 Tryz.underlying34 w.heap.size g 21 139 [(0, 129), (1, 130), (2, 131), (4, 132), (5, 133), (6, 134), (16, 135), (17, 136), (18, 137), (19, 137), (20, 138)] rfl rfl rfl M11.out (by decide) ?_
       intro W12 hm hg
       have M12 := veil (show MapIs W12 w.heap.size g [(0, 129), (1, 130), (2, 131), (4, 132), (5, 133), (6, 134), (16, 135), (17, 136), (18, 137), (19, 137), (20, 138), (21, 139)] from hm)
       have B12 := veil (B11.out.trans (show Below w.heap.size W11 W12 from ⟨hg.os, hg.tape, hg.output, hg.size, fun k hk => hg.block k (Nat.lt_of_lt_of_le hk B11.out.size) (fun e => by have := Option.some.inj e; omega)⟩))
       clear hm hg M11 B11)
    | (with_reducible (show wpList _ _ _ (⟨none, Op.insert _ _ (Operand.const (Value.int .u64 28)) _, _, _, _, _⟩ :: _) _ _)
       refine insert_wp rfl 162 34 77 _ _ _ (.inl rfl) Tryz.underlying162 Tryz.underlying34 w.heap.size g 28 140 [(0, 129), (1, 130), (2, 131), (4, 132), (5, 133), (6, 134), (16, 135), (17, 136), (18, 137), (19, 137), (20, 138), (21, 139)] rfl rfl rfl M12.out (by decide) ?_
       intro W13 hm hg
       have M13 := veil (show MapIs W13 w.heap.size g [(0, 129), (1, 130), (2, 131), (4, 132), (5, 133), (6, 134), (16, 135), (17, 136), (18, 137), (19, 137), (20, 138), (21, 139), (28, 140)] from hm)
       have B13 := veil (B12.out.trans (show Below w.heap.size W12 W13 from ⟨hg.os, hg.tape, hg.output, hg.size, fun k hk => hg.block k (Nat.lt_of_lt_of_le hk B12.out.size) (fun e => by have := Option.some.inj e; omega)⟩))
       clear hm hg M12 B12)
    | (with_reducible (show wpList _ _ _ (⟨none, Op.insert _ _ (Operand.const (Value.int .u64 29)) _, _, _, _, _⟩ :: _) _ _)
       refine insert_wp rfl 162 34 77 _ _ _ (.inl rfl) Tryz.underlying162 Tryz.underlying34 w.heap.size g 29 140 [(0, 129), (1, 130), (2, 131), (4, 132), (5, 133), (6, 134), (16, 135), (17, 136), (18, 137), (19, 137), (20, 138), (21, 139), (28, 140)] rfl rfl rfl M13.out (by decide) ?_
       intro W14 hm hg
       have M14 := veil (show MapIs W14 w.heap.size g [(0, 129), (1, 130), (2, 131), (4, 132), (5, 133), (6, 134), (16, 135), (17, 136), (18, 137), (19, 137), (20, 138), (21, 139), (28, 140), (29, 140)] from hm)
       have B14 := veil (B13.out.trans (show Below w.heap.size W13 W14 from ⟨hg.os, hg.tape, hg.output, hg.size, fun k hk => hg.block k (Nat.lt_of_lt_of_le hk B13.out.size) (fun e => by have := Option.some.inj e; omega)⟩))
       clear hm hg M13 B13)
    | (with_reducible (show wpList _ _ _ (⟨none, Op.insert _ _ (Operand.const (Value.int .u64 30)) _, _, _, _, _⟩ :: _) _ _)
       refine insert_wp rfl 162 34 77 _ _ _ (.inl rfl) Tryz.underlying162 Tryz.underlying34 w.heap.size g 30 141 [(0, 129), (1, 130), (2, 131), (4, 132), (5, 133), (6, 134), (16, 135), (17, 136), (18, 137), (19, 137), (20, 138), (21, 139), (28, 140), (29, 140)] rfl rfl rfl M14.out (by decide) ?_
       intro W15 hm hg
       have M15 := veil (show MapIs W15 w.heap.size g [(0, 129), (1, 130), (2, 131), (4, 132), (5, 133), (6, 134), (16, 135), (17, 136), (18, 137), (19, 137), (20, 138), (21, 139), (28, 140), (29, 140), (30, 141)] from hm)
       have B15 := veil (B14.out.trans (show Below w.heap.size W14 W15 from ⟨hg.os, hg.tape, hg.output, hg.size, fun k hk => hg.block k (Nat.lt_of_lt_of_le hk B14.out.size) (fun e => by have := Option.some.inj e; omega)⟩))
       clear hm hg M14 B14))
  have MF := veil (show MapIs W15 w.heap.size g (rowsL 0) by have := M15.out; unfold rowsL strL; simpa [rows15] using this)
  clear M15
  go_loopw [4] (fun i wr => ∃ k : Nat, k ≤ 8 ∧ i = .int .u64 (k : Int) ∧ MapIs wr w.heap.size g (rowsL k) ∧ Below w.heap.size w wr)
    (fun i _ => 8 - (intOf i).toNat)
  case atStart => exact ⟨0, Nat.zero_le _, rfl, MF.out, B15.out⟩
  case round =>
    clear MF B15
    obtain ⟨k, hk, rfl, hM, hB⟩ := hrel
    have M := veil hM
    have B := veil hB
    clear hM hB
    by_cases hlt : k < 8
    · have hd : decide ((k : Int) ≤ 7) = true := by simp; omega
      have hor := or_8 ⟨k, hlt⟩
      simp only at hor
      have hno := rows_no k hlt
      have HNO := veil hno
      clear hno
      go_wp2_with (with_reducible (show wpList _ _ _ (⟨none, Op.mapUpdate _ _ _ _, _, _, _, _⟩ :: _) _ _)
                   refine insert_wp rfl 162 34 77 _ _ _ (.inr rfl) Tryz.underlying162 Tryz.underlying34 w.heap.size g (8 + k) 142 (rowsL k) rfl rfl rfl M.out HNO.out ?_
                   intro W1 hm hg
                   rw [← rowsL_succ] at hm
                   have M1 := veil hm
                   have B1 := veil (B.out.trans (show Below w.heap.size wr W1 from ⟨hg.os, hg.tape, hg.output, hg.size, fun k hk => hg.block k (Nat.lt_of_lt_of_le hk B.out.size) (fun e => by have := Option.some.inj e; omega)⟩))
                   clear hm hg)
      go_roundw
      case rel => exact ⟨k + 1, by omega, by go_num, M1.out, B1.out⟩
      case measure => simp [intOf]; omega
    · obtain rfl : k = 8 := by omega
      have hd : decide (((8 : Nat) : Int) ≤ 7) = false := by decide
      go_wp2_with fail
      go_ret
      exact ⟨rfl, M.out, B.out⟩

/-- What reads the rest of a frame of a type. -/
def fnOf (n : Nat) : Nat := match findL n (rowsL 8) 0 with
  | none => 0
  | some p => p.2
theorem find_type (n : Nat) : (findL n (rowsL 8) 0).isSome = Fr.isType n := by
  by_cases h : n < 31
  · have : ∀ k : Fin 31, (findL k.val (rowsL 8) 0).isSome = Fr.isType k.val := by decide +kernel
    exact this ⟨n, h⟩
  · have h1 : Fr.isType n = false := by
      cases hq : Fr.isType n with
      | false => rfl
      | true => exact absurd (Fr.isType_lt hq) h
    rw [h1, findL_none n (rowsL 8) 0 (by
      have : ∀ p ∈ rowsL 8, p.1 < 31 := by decide +kernel
      intro p hp e
      have := this p hp
      omega)]
    rfl
def beginR : Fr.R Nat := fun b => match Fr.getN b with
  | none => .error 4
  | some (n, k) => if Fr.isType n = true ∧ k ≤ 1 then .ok (n, b.drop k) else .error 5
theorem frameP_begin (b : List By) : Fr.frameP b = Fr.thenR beginR Fr.bodyP b := by
  unfold Fr.frameP Fr.thenR beginR
  cases Fr.getN b with
  | none => rfl
  | some p =>
    obtain ⟨n, k⟩ := p
    simp only
    split <;> rfl
end Go.Proofs.YtimhbjlmpojhoaaGreatDoor

/-! frame's reader: begin; what reads the rest of a frame (written by mkbegin.py). -/
namespace Go.Proofs.YtimhbjlmpojhoaaGreatDoor
open Go Go.RowKit

theorem type_cases {n : Nat} (h : Fr.isType n = true) : n = 0 ∨ n = 1 ∨ n = 2 ∨ n = 4 ∨ n = 5 ∨ n = 6 ∨ n = 8 ∨ n = 9 ∨ n = 10 ∨ n = 11 ∨ n = 12 ∨ n = 13 ∨ n = 14 ∨ n = 15 ∨ n = 16 ∨ n = 17 ∨ n = 18 ∨ n = 19 ∨ n = 20 ∨ n = 21 ∨ n = 28 ∨ n = 29 ∨ n = 30 := by
  have h1 := Fr.isType_lt h
  have : ∀ k : Fin 31, Fr.isType k.val = true → k.val = 0 ∨ k.val = 1 ∨ k.val = 2 ∨ k.val = 4 ∨ k.val = 5 ∨ k.val = 6 ∨ k.val = 8 ∨ k.val = 9 ∨ k.val = 10 ∨ k.val = 11 ∨ k.val = 12 ∨ k.val = 13 ∨ k.val = 14 ∨ k.val = 15 ∨ k.val = 16 ∨ k.val = 17 ∨ k.val = 18 ∨ k.val = 19 ∨ k.val = 20 ∨ k.val = 21 ∨ k.val = 28 ∨ k.val = 29 ∨ k.val = 30 := by decide +kernel
  exact this ⟨n, h1⟩ h
/-- Each method reads what the table says. -/
theorem rd_row (g n : Nat) (s : SL) (w : World) (ht : Fr.isType n = true) (h : Rd w g s n) :
    Calls Tryz.prog (fnOf n) #[.pointer (some ⟨g, 0, none⟩)] w (RdPost w g s n (Fr.bodyP n) (frV w.heap.size)) := by
  rcases type_cases ht with rfl | rfl | rfl | rfl | rfl | rfl | rfl | rfl | rfl | rfl | rfl | rfl | rfl | rfl | rfl | rfl | rfl | rfl | rfl | rfl | rfl | rfl | rfl
  · exact rd_padding g s 0 w h
  · exact rd_ping g s 1 w h
  · exact rd_ack g s 2 w h
  · exact rd_reset g s 4 w h
  · exact rd_stop g s 5 w h
  · exact rd_crypto g s 6 w h
  · exact rd_stream_00 g s 8 w h (by decide) (by decide) (by decide)
  · exact rd_stream_00 g s 9 w h (by decide) (by decide) (by decide)
  · exact rd_stream_01 g s 10 w h (by decide) (by decide) (by decide)
  · exact rd_stream_01 g s 11 w h (by decide) (by decide) (by decide)
  · exact rd_stream_10 g s 12 w h (by decide) (by decide) (by decide)
  · exact rd_stream_10 g s 13 w h (by decide) (by decide) (by decide)
  · exact rd_stream_11 g s 14 w h (by decide) (by decide) (by decide)
  · exact rd_stream_11 g s 15 w h (by decide) (by decide) (by decide)
  · exact rd_maxData g s 16 w h
  · exact rd_maxStreamData g s 17 w h
  · exact rd_maxStreams g s 18 w h (.inl rfl)
  · exact rd_maxStreams g s 19 w h (.inr rfl)
  · exact rd_dataBlocked g s 20 w h
  · exact rd_streamBlocked g s 21 w h
  · exact rd_close_28 g s w h
  · exact rd_close_29 g s w h
  · exact rd_done g s 30 w h

theorem run_lookupO {P : Program} {a : Act} {o : Oper} (t kT eT : TypeId) (m k : Operand) (b g n : Nat) (L : List (Nat × Nat)) (W : World) (ho : o.op = .lookup t m k true) (hm : a.eval m = .map (some b)) (hk : a.eval k = .int .u64 (n : Int)) (ht : P.underlying t = some (.map kT eT)) (hku : P.underlying kT = some (.int .u64)) (h : MapIs W b g L) (hz : (zeroValue eT).run P W = .ok .nilFunc W) :
    (execOp a.eval o).run P W = .ok (.value (.tuple #[match findL n L 0 with | none => .nilFunc | some p => fv g p.2, .bool (findL n L 0).isSome])) W := by
  have hl := run_lookupL hku ht h (n := n) hz
  unfold execOp
  simp only [ho, hm, hk, Sem.run_bind, hl, Result.andThen_ok, Sem.run_pure]
  cases findL n L 0 <;> rfl

set_option maxRecDepth 20000 in
set_option maxHeartbeats 2000000 in
theorem rd_begin (g b : Nat) (s : SL) (tb : Nat) (w : World) (h : Rd w g s tb) (hM : MapIs w b g (rowsL 8)) (hbg : b ≠ g) :
    Calls Tryz.prog 116 #[.pointer (some ⟨g, 0, none⟩), .map (some b)] w fun x w' => (∃ e, beginR s.b = .error e ∧ x = pan e ∧ w.grownBy w' (some g)) ∨ ∃ n r, ∃ s' : SL, beginR s.b = .ok (n, r) ∧ x = .returned (fv g (fnOf n)) ∧ Fr.isType n = true ∧ Rd w' g s' n ∧ s'.b = r ∧ s'.g = s.g ∧ s'.len ≤ s.len ∧ w.grownBy w' (some g) := by
  have c0 : w.cell? ⟨g, 0, none⟩ = some (.slice s.a s.len s.cap) := h.row.cell 0
  have hN := fr_number g s tb w h
  have hsl := h.len
  have H := veil h
  have HM := veil hM
  clear h hM
  cases hq : Fr.getN s.b with
  | none =>
    rw [hq] at hN
    have HN := veil hN
    have E := veil (show beginR s.b = .error 4 by unfold beginR; rw [hq])
    clear hN hq
    go_enter Tryz.func116, Tryz.ntmps116
    go_wp2_with fail
    refine HN.out.mono ?_
    rintro x1 w1 ⟨rfl, hg⟩
    exact ⟨rfl, .inl ⟨4, E.out, rfl, hg⟩⟩
  | some p =>
    obtain ⟨n, k⟩ := p
    rw [hq] at hN
    have HN := veil hN
    have HQ := veil hq
    obtain ⟨hk1, hk2, hn62, _⟩ := Fr.getN_some hq
    rw [H.out.ok.hb] at hk2
    clear hN hq
    go_enter Tryz.func116, Tryz.ntmps116
    go_wp2_with fail
    refine HN.out.mono ?_
    rintro x1 w1 ⟨rfl, s1, hR1, hb1, hsg1, hsl1, hg1⟩
    have hl1 : s1.len = s.len - k := by have := hR1.ok.hb; rw [hb1, List.length_drop, H.out.ok.hb] at this; omega
    have y1 : w1.cell? ⟨g, 1, none⟩ = some (.int .u64 (tb : Int)) := hR1.row.cell 1
    have z1 := hR1.row.frozen 1
    have hg2 : w.grownBy (w1.setCell ⟨g, 1, none⟩ (.int .u64 (n : Int))) (some g) := grown_set hg1
    have D2 := veil (show Rd (w1.setCell ⟨g, 1, none⟩ (.int .u64 (n : Int))) g s1 n from ⟨hR1.row.set 1 _, hR1.ok.apart (grown_set (grown_refl _ _)) hR1.ne, hR1.told, hR1.ne, hR1.lens.grown (grown_set (grown_refl _ _)) hR1.gne, hR1.gne, hR1.len⟩)
    have M2 := veil (HM.out.keep (hg2.block b HM.out.lt (fun e => hbg (Option.some.inj e))))
    have d0 : (w1.setCell ⟨g, 1, none⟩ (.int .u64 (n : Int))).cell? ⟨g, 0, none⟩ = some (.slice s1.a s1.len s1.cap) := D2.out.row.cell 0
    have d1 : (w1.setCell ⟨g, 1, none⟩ (.int .u64 (n : Int))).cell? ⟨g, 1, none⟩ = some (.int .u64 (n : Int)) := D2.out.row.cell 1
    have hsub : IntKind.i64.wrap ((s.len : Int) - (s1.len : Int)) = (k : Int) := by rw [IntKind.wrap_i64]; omega
    have hsub2 : (s.len : Int) - (s1.len : Int) = (k : Int) := by omega
    have REST := veil (show s1.b = s.b.drop k ∧ s1.g = s.g ∧ s1.len ≤ s.len ∧ w.grownBy (w1.setCell ⟨g, 1, none⟩ (.int .u64 (n : Int))) (some g) from ⟨hb1, hsg1, hsl1, hg2⟩)
    have HFT := veil (find_type n)
    have hkw : IntKind.i64.wrap (k : Int) = (k : Int) := by rw [IntKind.wrap_i64]; omega
    clear hR1 hb1 hsg1 hsl1 hg1 hg2 HN c0 hl1
    by_cases ht : Fr.isType n = true
    · obtain ⟨p, hp⟩ : ∃ p, findL n (rowsL 8) 0 = some p := by
        have := HFT.out
        rw [ht] at this
        exact Option.isSome_iff_exists.1 this
      have hfn : fnOf n = p.2 := by unfold fnOf; rw [hp]
      have HP := veil hp
      by_cases hk : k ≤ 1
      · have f1 : decide ((1 : Int) < (k : Int)) = false := by simp; omega
        have f1n : decide (1 < k) = false := by simp; omega
        have E := veil (show beginR s.b = .ok (n, s.b.drop k) by unfold beginR; rw [HQ.out]; simp only; rw [if_pos ⟨ht, hk⟩])
        have HT := veil ht
        clear ht hk hp
        go_wp2_with (with_reducible (show wpList _ _ _ (⟨_, Op.lookup _ _ _ _, _, _, _, _⟩ :: _) _ _)
                     refine value_wp rfl _ ((run_lookupO 162 34 77 _ _ b g n (rowsL 8) _ rfl rfl rfl Tryz.underlying162 Tryz.underlying34 M2.out (by kernel_rfl)).trans (by rw [HP.out])) ?_)
        go_ret
        exact .inr ⟨n, _, s1, E.out, by rw [hfn]; rfl, HT.out, D2.out, REST.out⟩
      · have f1 : decide ((1 : Int) < (k : Int)) = true := by simp; omega
        have f1n : decide (1 < k) = true := by simp; omega
        have E := veil (show beginR s.b = .error 5 by unfold beginR; rw [HQ.out]; simp only; rw [if_neg (fun q => hk q.2)])
        clear ht hk hp
        go_wp2_with (with_reducible (show wpList _ _ _ (⟨_, Op.lookup _ _ _ _, _, _, _, _⟩ :: _) _ _)
                     refine value_wp rfl _ ((run_lookupO 162 34 77 _ _ b g n (rowsL 8) _ rfl rfl rfl Tryz.underlying162 Tryz.underlying34 M2.out (by kernel_rfl)).trans (by rw [HP.out])) ?_)
        exact ⟨rfl, .inl ⟨5, E.out, rfl, REST.out.2.2.2⟩⟩
    · have hp : findL n (rowsL 8) 0 = none := by
        have := HFT.out
        cases hq : findL n (rowsL 8) 0 with
        | none => rfl
        | some p => rw [hq] at this; exact absurd this.symm ht
      have HP := veil hp
      have E := veil (show beginR s.b = .error 5 by unfold beginR; rw [HQ.out]; simp only; rw [if_neg (fun q => ht q.1)])
      clear ht hp
      go_wp2_with (with_reducible (show wpList _ _ _ (⟨_, Op.lookup _ _ _ _, _, _, _, _⟩ :: _) _ _)
                   refine value_wp rfl _ ((run_lookupO 162 34 77 _ _ b g n (rowsL 8) _ rfl rfl rfl Tryz.underlying162 Tryz.underlying34 M2.out (by kernel_rfl)).trans (by rw [HP.out])) ?_)
      exact ⟨rfl, .inl ⟨5, E.out, rfl, REST.out.2.2.2⟩⟩
end Go.Proofs.YtimhbjlmpojhoaaGreatDoor

/-! frame's reader: what catches a panic with an error. -/
namespace Go.Proofs.YtimhbjlmpojhoaaGreatDoor
open Go Go.RowKit

set_option maxRecDepth 20000 in
set_option maxHeartbeats 1000000 in
theorem catch_pan (n : Nat) (lb eb E : Nat) (lv ev : Value) (w : World) (hl : w.cell? ⟨lb, 0, none⟩ = some lv) (hlz : w.frozen? ⟨lb, 0, none⟩ = false) (he : w.cell? ⟨eb, 0, none⟩ = some ev) (hez : w.frozen? ⟨eb, 0, none⟩ = false) (hne : lb ≠ eb) :
    CallsDIn Fence.wide n Tryz.prog 114 #[.pointer (some ⟨lb, 0, none⟩), .pointer (some ⟨eb, 0, none⟩)] (.panicking [{ v := .iface 27 (.int .i64 (E : Int)), recovered := false }]) w fun e u' w' =>
      e = .returned (.tuple #[]) ∧ u' = .panicking [{ v := .iface 27 (.int .i64 (E : Int)), recovered := true }] ∧ w' = (w.setCell ⟨lb, 0, none⟩ (.slice none 0 0)).setCell ⟨eb, 0, none⟩ (.int .i64 (E : Int)) := by
  have hta : ∀ w : World, (Instr.typeAssert (.iface 27 (.int .i64 (E : Int))) 20 27 true).run Tryz.prog w = .ok (.tuple #[.int .i64 (E : Int), .bool true]) w := fun w => by kernel_rfl
  refine callsDIn_of_wpSIn Tryz.func114 rfl trivial fun c₀ cs hu => ?_
  apply wpSIn_seq
  apply wpSIn_region
  simp [wpOpsSIn, go_sem, recoverD, hu, Tryz.ntmps114, Exit.thenS, hta]
  apply wpSIn_seq
  apply wpSIn_region
  simp [wpOpsSIn, go_sem, Exit.thenS]
  refine wpSIn_cond (t := true) (by simp [Act.eval, Array.replicate]) ?_
  simp only [if_true]
  apply wpSIn_region
  have hc2 : (w.setCell ⟨lb, 0, none⟩ (.slice none 0 0)).cell? ⟨eb, 0, none⟩ = some ev := (World.cell?_of_block (a := ⟨eb, 0, none⟩) (Below.heap_setCell _ _ _ _ (fun e => hne (Eq.symm e)))).trans he
  have hz2 : (w.setCell ⟨lb, 0, none⟩ (.slice none 0 0)).frozen? ⟨eb, 0, none⟩ = false := by
    rw [World.frozen?_setCell]; exact hez
  simp [wpOpsSIn, go_sem, hl, hlz, hc2, hz2, bodyPostS, results, Tryz.results114]
theorem catch_idle (n : Nat) (lb eb : Nat) (w : World) :
    CallsDIn Fence.wide n Tryz.prog 114 #[.pointer (some ⟨lb, 0, none⟩), .pointer (some ⟨eb, 0, none⟩)] .returning w fun e u' w' => e = .returned (.tuple #[]) ∧ u' = .returning ∧ w' = w := by
  have hta : ∀ w : World, (Instr.typeAssert .nilIface 20 27 true).run Tryz.prog w = .ok (.tuple #[.int .i64 0, .bool false]) w := fun w => by kernel_rfl
  refine callsDIn_of_wpSIn Tryz.func114 rfl trivial fun c₀ cs hu => ?_
  apply wpSIn_seq
  apply wpSIn_region
  simp [wpOpsSIn, go_sem, recoverD, hu, Tryz.ntmps114, Exit.thenS, hta]
  apply wpSIn_seq
  apply wpSIn_region
  simp [wpOpsSIn, go_sem, Exit.thenS]
  refine wpSIn_cond (t := false) (by simp [Act.eval, Array.replicate]) ?_
  simp only [Bool.false_eq_true, if_false]
  refine wpSIn_of_wpIn rfl (wpIn_skip ?_)
  cases c₀
  simp_all [bodyPostS, results, Tryz.results114]
end Go.Proofs.YtimhbjlmpojhoaaGreatDoor

/-! frame's reader: frames, and frame.Get. -/
namespace Go.Proofs.YtimhbjlmpojhoaaGreatDoor
open Go Go.RowKit

def vf (Fs : List FrM) : List Value := Fs.flatMap fun F => F.cells.toList
theorem vf_append (a b : List FrM) : vf (a ++ b) = vf a ++ vf b := by unfold vf; rw [List.flatMap_append]
theorem vf_length (Fs : List FrM) : (vf Fs).length = Fs.length * 8 := by
  induction Fs with
  | nil => rfl
  | cons F Fs ih =>
    have e : vf (F :: Fs) = F.cells.toList ++ vf Fs := rfl
    rw [e, List.length_append, ih, List.length_cons]
    have : F.cells.toList.length = 8 := rfl
    omega
theorem Tryz.infoFrameV : (Tryz.prog.info? 37).map (fun i => (i.zero, i.size, i.bytes)) = some (some (.agg zF), 8, 96) := by kernel_rfl
theorem frame_info : ∃ i0, Tryz.prog.info? 37 = some i0 ∧ i0.zero = some (.agg zF) ∧ i0.size = 8 ∧ i0.bytes = 96 := by
  have h := Tryz.infoFrameV
  cases hq : Tryz.prog.info? 37 with
  | none => rw [hq] at h; cases h
  | some i =>
    rw [hq] at h
    simp only [Option.map_some, Option.some.injEq, Prod.mk.injEq] at h
    exact ⟨i, rfl, h.1, h.2.1, h.2.2⟩
/-- What is no row of frames stays. -/
def Others (base : Nat) (W W' : World) : Prop := W.heap.size ≤ W'.heap.size ∧ ∀ k, base ≤ k → k < W.heap.size → (∀ cs fr, W.heap[k]? ≠ some (.cells cs 37 fr)) → W'.heap[k]? = W.heap[k]?
theorem own_others {base n z : Nat} {e : TypeId} {v : Value} {xs : List Value} {W W' : World} (h : W.ownsRow base e z v n xs) (he : e ≠ 37) (ho : Others base W W') : W'.ownsRow base e z v n xs := by
  obtain ⟨h1, h2⟩ := h
  refine ⟨h1, ?_⟩
  rcases h2 with h2 | ⟨g, c, cur, h3, h4, h5, h6⟩
  · exact .inl h2
  · refine .inr ⟨g, c, cur, h3, h4, (ho.2 g h4 (Array.getElem?_eq_some_iff.1 h5).1 ?_).trans h5, h6⟩
    intro cs fr q
    rw [h5] at q
    injection q with q
    injection q with _ q _
    exact he q
theorem FrNew.keep {base : Nat} {W W' : World} {F : FrM} (h : FrNew base W F) (ho : Others base W W') : FrNew base W' F := by
  have hd := own_others h.data (by decide) ho
  have hr := own_others h.ranges (by decide) ho
  refine ⟨hd, ?_, hr, ?_, h.k8, h.st, h.of, h.li, h.co⟩
  · refine h.dok.same (fun p => ?_) ho.1
    have ha := h.dok.at_ p
    rcases h.data.2 with ⟨q, _⟩ | ⟨g, c, cur, h3, h4, h5, _⟩
    · rw [ha] at q; cases q
    · rw [ha] at h3
      injection h3 with h3
      injection h3 with h3
      injection h3 with h3
      subst h3
      refine ho.2 _ h4 (Array.getElem?_eq_some_iff.1 h5).1 ?_
      intro cs fr q
      rw [h5] at q
      injection q with q
      injection q with _ q _
      exact absurd q (by decide)
  · refine h.rok.same (fun p => ?_) ho.1
    have ha := h.rok.at_ p
    rcases h.ranges.2 with ⟨q, _⟩ | ⟨g, c, cur, h3, h4, h5, _⟩
    · rw [ha] at q; cases q
    · rw [ha] at h3
      injection h3 with h3
      injection h3 with h3
      injection h3 with h3
      subst h3
      refine ho.2 _ h4 (Array.getElem?_eq_some_iff.1 h5).1 ?_
      intro cs fr q
      rw [h5] at q
      injection q with q
      injection q with _ q _
      exact absurd q (by decide)
theorem FrNew.low {base base' : Nat} {W : World} {F : FrM} (h : FrNew base W F) (hb : base' ≤ base) : FrNew base' W F :=
  ⟨own_low2 h.data hb, h.dok, own_low2 h.ranges hb, h.rok, h.k8, h.st, h.of, h.li, h.co⟩
theorem FrNew.ok {base : Nat} {W : World} {F : FrM} (h : FrNew base W F) : F.Ok W := by
  have h1 := h.st
  have h2 := h.of
  have h3 := h.li
  have h4 := h.co
  exact ⟨h.dok, h.rok, h.k8, by omega, by omega, by omega, by omega⟩
theorem others_grown {base g : Nat} {W W' : World} (h : W.grownBy W' (some g)) (hg : g < base) : Others base W W' := ⟨h.size, fun k hk hl _ => h.block k hl (fun e => by have := Option.some.inj e; omega)⟩
theorem others_below {base : Nat} {W W' : World} (h : Below W.heap.size W W') : Others base W W' := ⟨h.size, fun k _ hl _ => h.block k hl⟩
/-- The blocks that a frame that was read has of its own. -/
def blks (F : FrM) : List Nat := (Value.slice F.data.a F.data.len F.data.cap).ownBlock.toList ++ (Value.slice F.ranges.a F.ranges.len F.ranges.cap).ownBlock.toList
/-- What came first lies below what came later. -/
def aptR (F G : FrM) : Prop := ∀ p, p ∈ blks F → ∀ q, q ∈ blks G → p < q
theorem blks_new {base p : Nat} {W : World} {F : FrM} (h : FrNew base W F) (hp : p ∈ blks F) : base ≤ p ∧ p < W.heap.size := by
  unfold blks at hp
  rcases List.mem_append.1 hp with q | q
  · exact h.data.lt p (Option.mem_toList.1 q)
  · exact h.ranges.lt p (Option.mem_toList.1 q)
theorem apt_snoc {Fs : List FrM} {F : FrM} {base : Nat} {W W' : World} (h : Fs.Pairwise aptR) (he : ∀ G ∈ Fs, FrNew base W G) (hF : FrNew W.heap.size W' F) : (Fs ++ [F]).Pairwise aptR := by
  refine List.pairwise_append.2 ⟨h, List.pairwise_singleton _ _, fun G hG X hX p hp q hq => ?_⟩
  rw [List.mem_singleton.1 hX] at hq
  have h1 := (blks_new (he G hG) hp).2
  have h2 := (blks_new hF hq).1
  omega
/-- While frames are read: the reader, what is handed back, and the table. -/
structure Lp (w : World) (g : Nat) (s s' : SL) (tb : Nat) (lv : Value) (Fs : List FrM) (Y : World) : Prop where
  rd : Rd Y g s' tb
  sg : s'.g = s.g
  sl : s'.len ≤ s.len
  rl : Row Y w.heap.size 22 #[lv]
  re : Row Y (w.heap.size + 1) 27 #[.int .i64 0]
  mp : MapIs Y (w.heap.size + 2) g (rowsL 8)
  each : ∀ F ∈ Fs, FrNew (w.heap.size + 3) Y F
  apt : Fs.Pairwise aptR
  gro : w.grownBy Y (some g)
  ord : g < w.heap.size ∧ 1 < w.heap.size ∧ (0 < s.len → s.g < w.heap.size)
theorem Lp.top {w Y : World} {g tb : Nat} {s s' : SL} {lv : Value} {Fs : List FrM} (h : Lp w g s s' tb lv Fs Y) : w.heap.size + 3 ≤ Y.heap.size := h.mp.lt
theorem Lp.call {w Y Y' : World} {g tb tb2 : Nat} {s s' s2 : SL} {lv : Value} {Fs : List FrM} (h : Lp w g s s' tb lv Fs Y) (hr : Rd Y' g s2 tb2) (hsg : s2.g = s'.g) (hsl : s2.len ≤ s'.len) (hg : Y.grownBy Y' (some g)) : Lp w g s s2 tb2 lv Fs Y' := by
  obtain ⟨o1, o2, o3⟩ := h.ord
  exact ⟨hr, hsg.trans h.sg, Nat.le_trans hsl h.sl, h.rl.grown hg (by omega), h.re.grown hg (by omega), h.mp.keep (hg.block _ h.mp.lt (fun e => by have := Option.some.inj e; omega)), fun F hF => (h.each F hF).keep (others_grown hg (by omega)), h.apt, grown_trans h.gro hg, h.ord⟩
theorem Lp.keep {w Y Y' : World} {g tb : Nat} {s s' : SL} {lv : Value} {Fs : List FrM} (h : Lp w g s s' tb lv Fs Y) (hb : Below (w.heap.size + 3) Y Y') (ho : Others (w.heap.size + 3) Y Y') : Lp w g s s' tb lv Fs Y' := by
  obtain ⟨o1, o2, o3⟩ := h.ord
  refine ⟨h.rd.same (hb.block g (by omega)) (fun p => hb.block _ (by rw [h.sg]; have := o3 (Nat.lt_of_lt_of_le p h.sl); omega)) (hb.block _ (by omega)) hb.size, h.sg, h.sl, h.rl.below hb (by omega), h.re.below hb (by omega), h.mp.keep (hb.block _ (by omega)), fun F hF => (h.each F hF).keep ho, h.apt, ?_, h.ord⟩
  exact ⟨hb.os.trans h.gro.os, hb.tape.trans h.gro.tape, hb.output.trans h.gro.output, Nat.le_trans h.gro.size hb.size, fun k hk hn => (hb.block k (by omega)).trans (h.gro.block k hk hn)⟩
theorem Lp.store {w Y : World} {g tb : Nat} {s s' : SL} {lv : Value} {Fs : List FrM} (h : Lp w g s s' tb lv Fs Y) (v : Value) : Lp w g s s' tb v Fs (Y.setCell ⟨w.heap.size, 0, none⟩ v) := by
  obtain ⟨o1, o2, o3⟩ := h.ord
  refine ⟨h.rd.setc (by omega) (fun p => by rw [h.sg]; have := o3 (Nat.lt_of_lt_of_le p h.sl); omega) (by omega) _, h.sg, h.sl, h.rl.set 0 _, h.re.other (a := ⟨w.heap.size, 0, none⟩) (show w.heap.size + 1 ≠ w.heap.size by omega) _, h.mp.keep (Below.heap_setCell _ _ _ _ (fun e => by have e : w.heap.size + 2 = w.heap.size := e; omega)), fun F hF => (h.each F hF).keep ⟨by simp [World.setCell], fun k hk _ _ => Below.heap_setCell _ _ _ _ (fun e => by have e : k = w.heap.size := e; omega)⟩, h.apt, grown_setc h.gro (Nat.le_refl _) _, h.ord⟩
theorem progLoop_fuel : ∀ (fuel fuel' : Nat) (b : List By) (acc : List Fr.Frame), b.length ≤ fuel → b.length ≤ fuel' → Fr.progLoop fuel b acc = Fr.progLoop fuel' b acc
  | _, _, [], _, _, _ => by rw [Fr.progLoop, Fr.progLoop]
  | 0, _, _ :: _, _, h, _ => by simp at h
  | _, 0, _ :: _, _, _, h => by simp at h
  | fuel + 1, fuel' + 1, c :: b, acc, h, h' => by
    rw [Fr.progLoop, Fr.progLoop]
    by_cases hl : acc.length = 1024
    · rw [if_pos hl, if_pos hl]
    · rw [if_neg hl, if_neg hl]
      cases hf : Fr.frameP (c :: b) with
      | error e => rfl
      | ok x =>
        obtain ⟨f, b'⟩ := x
        have := Fr.frameP_less hf
        simp only [List.length_cons] at h h' this
        exact progLoop_fuel fuel fuel' b' _ (by omega) (by omega)
/-- What is read of bytes, behind frames that were read. -/
def allP (b : List By) (acc : List Fr.Frame) : Except Nat (List Fr.Frame) := Fr.progLoop b.length b acc
theorem allP_full {b : List By} {acc : List Fr.Frame} (hb : b ≠ []) (h : acc.length = 1024) : allP b acc = .error 3 := by
  cases b with
  | nil => exact absurd rfl hb
  | cons c b =>
    show (if acc.length = 1024 then _ else _) = _
    rw [if_pos h]
theorem allP_err {b : List By} {acc : List Fr.Frame} {e : Nat} (hb : b ≠ []) (h : acc.length ≠ 1024) (hf : Fr.frameP b = .error e) : allP b acc = .error e := by
  cases b with
  | nil => exact absurd rfl hb
  | cons c b =>
    show (if acc.length = 1024 then _ else _) = _
    rw [if_neg h, hf]
theorem allP_ok {b b' : List By} {acc : List Fr.Frame} {f : Fr.Frame} (hb : b ≠ []) (h : acc.length ≠ 1024) (hf : Fr.frameP b = .ok (f, b')) : allP b acc = allP b' (f :: acc) := by
  have hl := Fr.frameP_less hf
  cases b with
  | nil => exact absurd rfl hb
  | cons c b =>
    show (if acc.length = 1024 then _ else _) = _
    rw [if_neg h, hf]
    simp only [List.length_cons] at hl
    exact progLoop_fuel _ _ _ _ (by omega) (by omega)
end Go.Proofs.YtimhbjlmpojhoaaGreatDoor

/-! frame's reader: frames, at the door. -/
namespace Go.Proofs.YtimhbjlmpojhoaaGreatDoor
open Go Go.RowKit

def dfr (L : Nat) : Deferred := { target := .fn (.func 114) #[.pointer (some ⟨L, 0, none⟩), .pointer (some ⟨L + 1, 0, none⟩)], args := #[] }
theorem results_two (tmps : Array Value) (L : Nat) (aV : Option Addr) (n cV : Nat) (E : Int) (W : World) (h2 : tmps.getD 2 undef = .pointer (some ⟨L, 0, none⟩)) (h3 : tmps.getD 3 undef = .pointer (some ⟨L + 1, 0, none⟩)) (hl : W.cell? ⟨L, 0, none⟩ = some (.slice aV n cV)) (he : W.cell? ⟨L + 1, 0, none⟩ = some (.int .i64 E)) :
    (results Tryz.f69 tmps).run Tryz.prog W = .ok (.tuple #[.slice aV n cV, .int .i64 E]) W := by
  have h2' : tmps[2]?.getD undef = .pointer (some ⟨L, 0, none⟩) := by simpa using h2
  have h3' : tmps[3]?.getD undef = .pointer (some ⟨L + 1, 0, none⟩) := by simpa using h3
  simp [results, Tryz.results69, h2', h3', asAddr, go_sem, hl, he]
theorem door_pan {tmps : Array Value} {R : Ending → World → Prop} (L E : Nat) (W : World) (lv ev : Value) (rl : Row W L 22 #[lv]) (re : Row W (L + 1) 27 #[ev]) (h2 : tmps.getD 2 undef = .pointer (some ⟨L, 0, none⟩)) (h3 : tmps.getD 3 undef = .pointer (some ⟨L + 1, 0, none⟩))
    (hR : R (.returned (.tuple #[.slice none 0 0, .int .i64 (E : Int)])) ((W.setCell ⟨L, 0, none⟩ (.slice none 0 0)).setCell ⟨L + 1, 0, none⟩ (.int .i64 (E : Int)))) :
    LeavesIn Fence.wide 4 Tryz.prog Tryz.f69 tmps R [dfr L] (.panicking [{ v := .iface 27 (.int .i64 (E : Int)), recovered := false }]) W := by
  refine leavesIn_cons (f := 114) (args := #[.pointer (some ⟨L, 0, none⟩), .pointer (some ⟨L + 1, 0, none⟩)]) (by simp) (by simp [Fence.wide]) (by simp [go_sem]) (by simp [Fence.wide]) ?_
  refine (catch_pan _ L (L + 1) E lv ev W (rl.cell 0) (rl.frozen 0) (re.cell 0) (re.frozen 0) (by omega)).mono ?_
  rintro e u' w'' ⟨rfl, rfl, rfl⟩
  refine ⟨_, results_two tmps L none 0 0 (E : Int) _ h2 h3 ?_ ?_, hR⟩
  · exact (rl.set 0 _).other (a := ⟨L + 1, 0, none⟩) (show L ≠ L + 1 by omega) _ |>.cell 0
  · exact ((re.other (a := ⟨L, 0, none⟩) (show L + 1 ≠ L by omega) _).set 0 _).cell 0
theorem door_ret {tmps : Array Value} {R : Ending → World → Prop} (L : Nat) (W : World) (aV : Option Addr) (n cV : Nat) (rl : Row W L 22 #[.slice aV n cV]) (re : Row W (L + 1) 27 #[.int .i64 0]) (h2 : tmps.getD 2 undef = .pointer (some ⟨L, 0, none⟩)) (h3 : tmps.getD 3 undef = .pointer (some ⟨L + 1, 0, none⟩))
    (hR : R (.returned (.tuple #[.slice aV n cV, .int .i64 0])) W) :
    LeavesIn Fence.wide 4 Tryz.prog Tryz.f69 tmps R [dfr L] .returning W := by
  refine leavesIn_cons (f := 114) (args := #[.pointer (some ⟨L, 0, none⟩), .pointer (some ⟨L + 1, 0, none⟩)]) (by simp) (by simp [Fence.wide]) (by simp [go_sem]) (by simp [Fence.wide]) ?_
  refine (catch_idle _ L (L + 1) W).mono ?_
  rintro e u' w'' ⟨rfl, rfl, rfl⟩
  exact ⟨_, results_two tmps L aV n cV 0 _ h2 h3 (rl.cell 0) (re.cell 0), hR⟩
end Go.Proofs.YtimhbjlmpojhoaaGreatDoor
