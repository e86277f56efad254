/-
  Written by mksnnext.py: what a sender tells next.
-/
import Derived.Test.YtehadfidenejdaaGreatDoorGp16
import Derived.Test.YtehadfidenejdaaGreatDoorGp1
namespace Go.Proofs.YtehadfidenejdaaGreatDoor
open Go Go.RowKit

namespace Sr
open Sd
def RNx (q : World) (n0 : Nat) (D : Bool) : Nat → World → Value → Prop
  | 0, W, _ => W = q
  | 1, W, u => Below q.heap.size q W ∧ u = .agg #[.int .u64 (n0 : Int), .int .u64 ((n0 + 1 : Nat) : Int)]
  | _, W, u => Below q.heap.size q W ∧ u = .bool D
theorem RNx.zero {q : World} {n0 : Nat} {D : Bool} {k : Nat} {W : World} {u : Value} (h : RNx q n0 D k W u) (hk : k ≤ 0) : W = q := by
  obtain rfl : k = 0 := by omega
  exact h
theorem RNx.bel {q : World} {n0 : Nat} {D : Bool} {k : Nat} {W : World} {u : Value} (h : RNx q n0 D k W u) : Below q.heap.size q W := by
  match k, h with
  | 0, h => exact (show W = q from h) ▸ Below.refl _ _
  | 1, h => exact h.1
  | _ + 2, h => exact h.1
theorem run_eqlN {P : Program} {a : Act} {o : Oper} (t t' : TypeId) (x y : Operand) (p q : Nat) (ho : o.op = .binOp .eql t x y t') (hx : a.eval x = .int .u64 (p : Int)) (hy : a.eval y = .int .u64 (q : Int)) (hn : p ≠ q) (W : World) :
    (execOp a.eval o).run P W = .ok (.value (.bool false)) W := by
  have e : ¬ (p : Int) = (q : Int) := by omega
  unfold execOp
  simp only [ho, hx, hy]
  go_simp
theorem run_min4 (a b c d : Nat) (ty : TypeId) (W : World) : (Builtin.min_ #[22, 22, 22, 22] ty #[.int .u64 (a : Int), .int .u64 (b : Int), .int .u64 (c : Int), .int .u64 (d : Int)]).run Tryz.prog W = .ok (.int .u64 ((min (min (min a b) c) d : Nat) : Int)) W := by
  have e2 : ∀ (x y : Nat) (W : World), (Builtin.min2 (.int .u64 (x : Int)) (.int .u64 (y : Int))).run Tryz.prog W = .ok (.int .u64 ((min x y : Nat) : Int)) W := by
    intro x y W
    have h := Lib.run_min_ints (P := Tryz.prog) W #[] 0 .u64 .u64 (x : Int) (y : Int)
    have e : min (x : Int) (y : Int) = ((min x y : Nat) : Int) := by omega
    rw [e] at h
    simpa [Builtin.min_, List.foldlM] using h
  show Sem.run Tryz.prog (([.int .u64 (b : Int), .int .u64 (c : Int), .int .u64 (d : Int)] : List Value).foldlM Builtin.min2 (.int .u64 (a : Int))) W = _
  simp only [List.foldlM_cons, List.foldlM_nil, Sem.run_bind, e2, Result.andThen_ok, Sem.run_pure]
theorem run_eqlR {a : Act} {o : Oper} (x y : Operand) (p q r z : Nat) (D : Bool) (ho : o.op = .binOp .eql 77 x y 77) (hx : a.eval x = .agg #[.int .u64 (p : Int), .int .u64 (q : Int)]) (hy : a.eval y = .agg #[.int .u64 (r : Int), .int .u64 (z : Int)]) (hD : D = (decide (p = r) && decide (q = z))) (W : World) :
    (execOp a.eval o).run Tryz.prog W = .ok (.value (.bool D)) W := by
  subst hD
  unfold execOp
  simp only [ho, hx, hy]
  by_cases c1 : p = r
  · by_cases c2 : q = z
    · subst c1 c2
      go_simp
    · have e : ¬ (q : Int) = (z : Int) := by omega
      subst c1
      simp only [c2, decide_false, Bool.and_false]
      go_simp
  · have e : ¬ (p : Int) = (r : Int) := by omega
    simp only [c1, decide_false, Bool.false_and]
    go_simp
def depNx : Nat → List Nat
  | 0 => []
  | 1 => [0]
  | 2 => [1]
  | 3 => [2]
  | 4 => [3]
  | 5 => [4]
  | 6 => [5, 4]
  | 7 => [6, 4]
  | 8 => [7, 4]
  | 9 => [4]
  | 10 => [9, 4]
  | 11 => [8, 10, 4]
  | 12 => [11, 4]
  | 13 => [12]
  | 14 => [12]
  | 15 => [14, 12]
  | 16 => [13, 15, 12]
  | 17 => [12, 16, 4]
  | 18 => [4, 17]
  | _ => []
def dclNx : Nat → List Nat
  | 1 => [0]
  | 2 => [0, 1]
  | 3 => [0, 1, 2]
  | 4 => [0, 1, 2, 3]
  | 5 => [0, 1, 2, 3, 4]
  | 6 => [0, 1, 2, 3, 4, 5]
  | 7 => [0, 1, 2, 3, 4, 5, 6]
  | 8 => [0, 1, 2, 3, 4, 5, 6, 7]
  | 9 => [0, 1, 2, 3, 4]
  | 10 => [0, 1, 2, 3, 4, 9]
  | 11 => [0, 1, 2, 3, 4, 5, 6, 7, 8, 9, 10]
  | 12 => [0, 1, 2, 3, 4, 5, 6, 7, 8, 9, 10, 11]
  | 13 => [0, 1, 2, 3, 4, 5, 6, 7, 8, 9, 10, 11, 12]
  | 14 => [0, 1, 2, 3, 4, 5, 6, 7, 8, 9, 10, 11, 12]
  | 15 => [0, 1, 2, 3, 4, 5, 6, 7, 8, 9, 10, 11, 12, 14]
  | 16 => [0, 1, 2, 3, 4, 5, 6, 7, 8, 9, 10, 11, 12, 13, 14, 15]
  | 17 => [0, 1, 2, 3, 4, 5, 6, 7, 8, 9, 10, 11, 12, 13, 14, 15, 16]
  | 18 => [0, 1, 2, 3, 4, 5, 6, 7, 8, 9, 10, 11, 12, 13, 14, 15, 16, 17]
  | _ => []
def valNx (g m n0 l1 l2 : Nat) : Nat → Value
  | 0 => .pointer (some ⟨g, 0, none⟩)
  | 1 => .pointer (some ⟨g, 0, none⟩)
  | 2 => .pointer (some ⟨g, 4, none⟩)
  | 3 => .bool true
  | 4 => .bool true
  | 5 => .pointer (some ⟨g, 0, none⟩)
  | 6 => .pointer (some ⟨g, 0, none⟩)
  | 7 => .pointer (some ⟨g, 5, none⟩)
  | 8 => .int .u64 (m : Int)
  | 9 => .pointer (some ⟨g, 0, none⟩)
  | 10 => .int .u64 (n0 : Int)
  | 11 => .bool false
  | 12 => .bool false
  | 13 => .agg #[.int .u64 (l1 : Int), .int .u64 (l2 : Int)]
  | 14 => .pointer (some ⟨g, 0, none⟩)
  | _ => undef
/-- What stands while it is looked for. -/
structure NxI (w W : World) (g : Nat) (wr cm ls : Value) (s : Snd) (C L : List Rn) (b7 l1 l2 : Nat) : Prop where
  bel : Below w.heap.size w W
  ok : SnOk W g wr cm ls s C L
  res : Row W w.heap.size 77 #[.int .u64 0, .int .u64 0]
  lst : Row W b7 77 #[.int .u64 (l1 : Int), .int .u64 (l2 : Int)]
theorem NxI.below {w W W' : World} {g : Nat} {wr cm ls : Value} {s : Snd} {C L : List Rn} {b7 l1 l2 : Nat} (h : NxI w W g wr cm ls s C L b7 l1 l2) (hb : Below W.heap.size W W') : NxI w W' g wr cm ls s C L b7 l1 l2 :=
  ⟨h.bel.trans (hb.mono h.bel.size), h.ok.below hb, h.res.below hb h.res.lt, h.lst.below hb h.lst.lt⟩
theorem NxI.end {w W : World} {g : Nat} {wr cm ls : Value} {s : Snd} {C L : List Rn} {b7 l1 l2 : Nat} (h : NxI w W g wr cm ls s C L b7 l1 l2) (a b : Value) :
    Row ((W.setCell ⟨w.heap.size, 0, none⟩ a).setCell ⟨w.heap.size, 1, none⟩ b) w.heap.size 77 #[a, b] ∧ Below w.heap.size w ((W.setCell ⟨w.heap.size, 0, none⟩ a).setCell ⟨w.heap.size, 1, none⟩ b) :=
  ⟨(h.res.set 0 a).set 1 b, (h.bel.setCell (p := ⟨w.heap.size, 0, none⟩) (Nat.le_refl _) _).setCell (p := ⟨w.heap.size, 1, none⟩) (Nat.le_refl _) _⟩
set_option maxHeartbeats 2000000 in
set_option maxRecDepth 20000 in
theorem next_any {w : World} {g : Nat} {wr cm ls : Value} {s : Snd} {C L : List Rn} (h : SnOk w g wr cm ls s C L) (n fr : Nat) (hn : n ≤ 9223372036854775807) (hfr : fr ≤ 18446744073709551615) :
    Calls Tryz.prog 37 #[.pointer (some ⟨g, 0, none⟩), .int .u64 (n : Int), .int .u64 (fr : Int)] w fun e w' => e = .returned (rcA (next s L n fr)) ∧ Below w.heap.size w w' := by
  have hlen := h.rep.fine.len
  have hfl := h.rep.fine.fr
  have hcl := h.rep.fine.credit
  have hcr := h.rep.cr
  have htop := h.rep.topL
  have hb0 : Below w.heap.size w (w.alloc (.cells #[.int .u64 0, .int .u64 0] 77)) := (Below.refl _ w).alloc (Nat.le_refl _) _
  have q1 : Row (w.alloc (.cells #[.int .u64 0, .int .u64 0] 77)) w.heap.size 77 #[.int .u64 0, .int .u64 0] := Row.new _ _ _
  have F1 := veil (first_any (w.alloc (.cells #[.int .u64 0, .int .u64 0] 77)) (h.below hb0).lrow)
  have Q1 := veil q1
  have HB := veil hb0
  have HOK := veil (h.below hb0)
  have c7 := (h.below hb0).row.cell 7
  obtain ⟨l1, hl1⟩ : ∃ l1, (fst L).1 = l1 := ⟨_, rfl⟩
  obtain ⟨l2, hl2⟩ : ∃ l2, (fst L).2 = l2 := ⟨_, rfl⟩
  have hl2b : l2 ≤ 1048577 := by
    rw [← hl2]
    cases L with
    | nil => show (0 : Nat) ≤ _; omega
    | cons a L => have := htop.1 a (List.mem_cons_self ..); show a.2 ≤ _; omega
  obtain ⟨n0, hn0⟩ : ∃ n0, s.b.length = n0 := ⟨_, rfl⟩
  obtain ⟨f, hf⟩ : ∃ f, s.fresh = f := ⟨_, rfl⟩
  obtain ⟨cr, hcr0⟩ : ∃ cr, s.credit = cr := ⟨_, rfl⟩
  obtain ⟨m, hm⟩ : ∃ m, sn s = m := ⟨_, rfl⟩
  have hnx : next s L n fr = if l1 < min l2 n0 then bytesFrom s l1 (min n (l2 - l1)) else if 0 < min (min (min n fr) (n0 - f)) (cr - f) then bytesFrom s f (min (min (min n fr) (n0 - f)) (cr - f)) else if s.last = true ∧ (m = n0 ∨ (l1 = n0 ∧ l2 = n0 + 1)) then (n0, n0 + 1) else (0, 0) := by
    unfold next
    rw [hl1, hl2, hn0, hf, hcr0, hm]
    have : fst L = (n0, n0 + 1) ↔ l1 = n0 ∧ l2 = n0 + 1 := by rw [← hl1, ← hl2]; exact Prod.ext_iff
    simp only [this]
  have HN := veil (show n ≤ 9223372036854775807 ∧ fr ≤ 18446744073709551615 ∧ n0 ≤ 1048576 ∧ f ≤ n0 ∧ cr ≤ 4611686018427387903 ∧ f ≤ cr ∧ l2 ≤ 1048577 from ⟨hn, hfr, by omega, by omega, by omega, by omega, hl2b⟩)
  unfold snC at c7
  obtain ⟨V, hV⟩ : ∃ V, next s L n fr = V := ⟨_, rfl⟩
  rw [hV] at hnx ⊢
  have HNX := veil hnx
  have HQ := veil (show s.b.length = n0 ∧ s.fresh = f ∧ s.credit = cr ∧ sn s = m from ⟨hn0, hf, hcr0, hm⟩)
  unfold rcA at F1 ⊢
  rw [hl1, hl2] at F1
  clear h hb0 q1 hlen hfl hcl hcr htop hl1 hl2 hl2b hn0 hf hcr0 hm hnx hV hn hfr
  go_enter Tryz.func37, Tryz.ntmps37
  go_wp2_with fail
  generalize w.alloc (.cells #[.int .u64 0, .int .u64 0] 77) = w0 at *
  refine F1.out.mono ?_
  rintro e1 w1 ⟨rfl, hb1⟩
  have HOK1 := veil (HOK.out.below hb1)
  have Q1' := veil (Q1.out.below hb1 Q1.out.lt)
  have HB1 := veil (HB.out.trans (hb1.mono HB.out.size))
  have FR := fresh_any HOK1.out
  rw [HQ.out.2.1] at FR
  have FR := veil FR
  clear hb1 HOK Q1 HB F1 c7
  go_wp2_with fail
  refine FR.out.mono ?_
  rintro e2 w2 ⟨rfl, hb2⟩
  have NX := veil (show NxI w (w2.alloc (.cells #[.int .u64 (l1 : Int), .int .u64 (l2 : Int)] 77)) g wr cm ls s C L w2.heap.size l1 l2 from by
    have ba := (Below.refl w2.heap.size w2).alloc (Nat.le_refl _) (.cells #[.int .u64 (l1 : Int), .int .u64 (l2 : Int)] 77)
    exact ⟨(HB1.out.trans (hb2.mono HB1.out.size)).trans (ba.mono ((HB1.out.trans (hb2.mono HB1.out.size)).size)), (HOK1.out.below hb2).below ba, (Q1'.out.below hb2 Q1'.out.lt).below ba (Q1'.out.below hb2 Q1'.out.lt).lt, Row.new _ _ _⟩)
  clear hb2 FR HOK1 Q1' HB1
  generalize hb7 : w2.heap.size = b7 at *
  generalize hw3 : w2.alloc (.cells #[.int .u64 (l1 : Int), .int .u64 (l2 : Int)] 77) = w3 at *
  have HW3 := veil (show w2.alloc (.cells #[.int .u64 (l1 : Int), .int .u64 (l2 : Int)] 77) = w3 ∧ w2.heap.size = b7 from ⟨hw3, hb7⟩)
  have SZ := veil (show ∀ W : World, W.heap = w3.heap → Calls Tryz.prog 34 #[.pointer (some ⟨g, 0, none⟩)] W (fun e w' => e = .returned (.int .u64 (n0 : Int)) ∧ w' = W) from fun W hW => by
    have := size_any (NX.out.ok.same (w' := W) (fun k _ => by rw [hW]))
    rw [HQ.out.1] at this
    exact this)
  have d0 := NX.out.lst.cell 0
  have d1 := NX.out.lst.cell 1
  clear hw3
  go_wp2_with fail
  try rw [HW3.out.1]
  try rw [HW3.out.2]
  have m1 : min (l2 : Int) (n0 : Int) = ((min l2 n0 : Nat) : Int) := by omega
  obtain ⟨t, ht⟩ : ∃ t, min l2 n0 = t := ⟨_, rfl⟩
  rw [ht] at m1
  have ht2 := veil ht
  go_quiet (first | (go_at_call 34; exact Calls.quiet_of_same (SZ.out _ rfl)))
  have NX4 := veil (NX.out.below (below_drewN (Below.refl _ w3) nq))
  have SZ4 := veil (show ∀ W : World, W.heap = (w3.drewN nq).heap → Calls Tryz.prog 34 #[.pointer (some ⟨g, 0, none⟩)] W (fun e w' => e = .returned (.int .u64 (n0 : Int)) ∧ w' = W) from SZ.out)
  clear NX SZ m1 d0 d1 HW3
  generalize w3.drewN nq = w4 at *
  have hnx := HNX.out
  rw [ht] at hnx
  clear HNX
  by_cases c1 : l1 < t
  · rw [if_pos c1] at hnx
    have i1 : (l1 : Int) < (t : Int) := by omega
    have d0 := NX4.out.lst.cell 0
    have d1 := NX4.out.lst.cell 1
    have hl12 : l1 < l2 := by have := ht2.out; omega
    obtain ⟨d, hd⟩ : ∃ d, d = l2 - l1 := ⟨_, rfl⟩
    have w1' : IntKind.u64.wrap ((l2 : Int) - (l1 : Int)) = (d : Int) := by rw [IntKind.wrap_u64]; have := HN.out; omega
    obtain ⟨k, hk⟩ : ∃ k, min n d = k := ⟨_, rfl⟩
    have m2 : min (n : Int) (d : Int) = (k : Int) := by omega
    rw [← hd, hk] at hnx
    have HV2 := veil hnx
    have BF := bytesFrom_any NX4.out.ok l1 k (by have := HN.out; omega) (by have := HN.out; omega)
    unfold rcA at BF
    have BF := veil BF
    clear hnx c1 hl12 hd hk
    go_wp2_with fail
    refine BF.out.mono ?_
    rintro e5 w5 ⟨rfl, hb5⟩
    have NXV := veil (NX4.out.below hb5)
    obtain ⟨va, hva⟩ : ∃ va, (bytesFrom s l1 k).1 = va := ⟨_, rfl⟩
    obtain ⟨vb', hvb⟩ : ∃ vb', (bytesFrom s l1 k).2 = vb' := ⟨_, rfl⟩
    rw [hva, hvb]
    have HVV := veil (show V = (va, vb') from by rw [HV2.out]; exact Prod.ext hva hvb)
    clear hb5 BF hva hvb
    have r0 := NXV.out.res.cell 0
    have r1 := NXV.out.res.cell 1
    have f0 := NXV.out.res.frozen 0
    have f1 := NXV.out.res.frozen 1
    go_wp2_with fail
    have hend := NXV.out.end (.int .u64 (va : Int)) (.int .u64 (vb' : Int))
    refine bodyPost_ret (results_cell_row rfl _ _ w.heap.size 77 #[.int .u64 (va : Int), .int .u64 (vb' : Int)] (0, 0) _ rfl hend.1 Tryz.underlying77 rfl (by kernel_rfl)) rfl ⟨?_, hend.2⟩
    rw [HVV.out]
  · rw [if_neg c1] at hnx
    have i1 : ¬ (l1 : Int) < (t : Int) := by omega
    obtain ⟨a, ha⟩ : ∃ a, n0 - f = a := ⟨_, rfl⟩
    obtain ⟨b, hb⟩ : ∃ b, cr - f = b := ⟨_, rfl⟩
    obtain ⟨k, hk⟩ : ∃ k, min (min (min n fr) a) b = k := ⟨_, rfl⟩
    have w1' : IntKind.u64.wrap ((n0 : Int) - (f : Int)) = (a : Int) := by rw [IntKind.wrap_u64]; have := HN.out; omega
    have w2' : IntKind.u64.wrap ((cr : Int) - (f : Int)) = (b : Int) := by rw [IntKind.wrap_u64]; have := HN.out; omega
    rw [ha, hb, hk] at hnx
    have HKB := veil (show k ≤ 1048576 by have := HN.out; omega)
    have m4 : ∀ ty W, (Builtin.min_ #[22, 22, 22, 22] ty #[.int .u64 (n : Int), .int .u64 (fr : Int), .int .u64 (a : Int), .int .u64 (b : Int)]).run Tryz.prog W = .ok (.int .u64 (k : Int)) W := fun ty W => by rw [← hk]; exact run_min4 n fr a b ty W
    have c2 := NX4.out.ok.row.cell 2
    unfold snC at c2
    rw [HQ.out.2.2.1] at c2
    have HNX2 := veil hnx
    clear hnx c1 ha hb hk
    go_wp2_with fail
    go_quiet (first | (go_at_call 34; exact Calls.quiet_of_same (SZ4.out _ rfl)))
    have NX5 := veil (NX4.out.below (below_drewN (Below.refl _ w4) nq))
    have SZ5 := veil (show ∀ W : World, W.heap = (w4.drewN nq).heap → Calls Tryz.prog 34 #[.pointer (some ⟨g, 0, none⟩)] W (fun e w' => e = .returned (.int .u64 (n0 : Int)) ∧ w' = W) from SZ4.out)
    clear NX4 SZ4 m4 c2 w1' w2'
    generalize w4.drewN nq = w5 at *
    have hnx := HNX2.out
    clear HNX2
    by_cases c2 : 0 < k
    · rw [if_pos c2] at hnx
      have i2 : (0 : Int) < (k : Int) := by omega
      have HV2 := veil hnx
      have BF := bytesFrom_any NX5.out.ok f k (by have := HN.out; omega) (by have := HKB.out; omega)
      unfold rcA at BF
      have BF := veil BF
      clear hnx c2
      go_wp2_with fail
      refine BF.out.mono ?_
      rintro e5 w5 ⟨rfl, hb5⟩
      have NXV := veil (NX5.out.below hb5)
      obtain ⟨va, hva⟩ : ∃ va, (bytesFrom s f k).1 = va := ⟨_, rfl⟩
      obtain ⟨vb', hvb⟩ : ∃ vb', (bytesFrom s f k).2 = vb' := ⟨_, rfl⟩
      rw [hva, hvb]
      have HVV := veil (show V = (va, vb') from by rw [HV2.out]; exact Prod.ext hva hvb)
      clear hb5 BF hva hvb
      have r0 := NXV.out.res.cell 0
      have r1 := NXV.out.res.cell 1
      have f0 := NXV.out.res.frozen 0
      have f1 := NXV.out.res.frozen 1
      go_wp2_with fail
      have hend := NXV.out.end (.int .u64 (va : Int)) (.int .u64 (vb' : Int))
      refine bodyPost_ret (results_cell_row rfl _ _ w.heap.size 77 #[.int .u64 (va : Int), .int .u64 (vb' : Int)] (0, 0) _ rfl hend.1 Tryz.underlying77 rfl (by kernel_rfl)) rfl ⟨?_, hend.2⟩
      rw [HVV.out]
    · rw [if_neg c2] at hnx
      have i2 : ¬ (0 : Int) < (k : Int) := by omega
      have c4 := NX5.out.ok.row.cell 4
      have c5 := NX5.out.ok.row.cell 5
      unfold snC at c4 c5
      rw [HQ.out.2.2.2] at c5
      clear c2
      by_cases c3 : s.last = true
      · rw [c3] at c4
        by_cases c6 : m = n0
        · rw [if_pos ⟨c3, .inl c6⟩] at hnx
          have HVE := veil hnx
          have i3 : (m : Int) = (n0 : Int) := by omega
          clear hnx c3 c6
          go_wp2_with fail
          go_quiet (first | (go_at_call 34; exact Calls.quiet_of_same (SZ5.out _ rfl)))
          have NXW := veil (NX5.out.below (below_drewN (Below.refl _ w5) nq))
          clear NX5 SZ5 c4 c5
          generalize w5.drewN nq = w6 at *
          have EC := end_any NXW.out.ok
          rw [HQ.out.1] at EC
          unfold rcA at EC
          simp only at EC
          have EC := veil EC
          go_wp2_with fail
          refine EC.out.mono ?_
          rintro e8 w8 ⟨rfl, hb8⟩
          have NXV := veil (NXW.out.below hb8)
          have HVV := veil (show V = (n0, n0 + 1) from HVE.out)
          clear hb8 EC
          have r0 := NXV.out.res.cell 0
          have r1 := NXV.out.res.cell 1
          have f0 := NXV.out.res.frozen 0
          have f1 := NXV.out.res.frozen 1
          go_wp2_with fail
          have hend := NXV.out.end (.int .u64 (n0 : Int)) (.int .u64 ((n0 + 1 : Nat) : Int))
          refine bodyPost_ret (results_cell_row rfl _ _ w.heap.size 77 #[.int .u64 (n0 : Int), .int .u64 ((n0 + 1 : Nat) : Int)] (0, 0) _ rfl hend.1 Tryz.underlying77 rfl (by kernel_rfl)) rfl ⟨?_, hend.2⟩
          rw [HVV.out]
        · have hD : ∃ D, (decide (l1 = n0) && decide (l2 = n0 + 1)) = D := ⟨_, rfl⟩
          obtain ⟨D, hD⟩ := hD
          have hV3 : V = if D = true then (n0, n0 + 1) else (0, 0) := by
            rw [hnx, ← hD]
            by_cases e1 : l1 = n0 ∧ l2 = n0 + 1
            · rw [if_pos ⟨c3, .inr e1⟩, if_pos (by simp [e1])]
            · rw [if_neg (by rintro ⟨_, q | q⟩; exact c6 q; exact e1 q), if_neg (by simp only [Bool.and_eq_true, decide_eq_true_eq]; exact e1)]
          have HV3 := veil hV3
          have HD := veil hD.symm
          have HMN := veil c6
          clear hnx hV3 hD c3 c6
          go_wp2_with fail
          have HC4 := veil (show w5.drew.cell? ⟨g, 4, none⟩ = some (.bool true) from c4)
          have HC5 := veil (show w5.drew.cell? ⟨g, 5, none⟩ = some (.int .u64 (m : Int)) from c5)
          have HL7 := veil (show Row w5.drew b7 77 #[.int .u64 (l1 : Int), .int .u64 (l2 : Int)] from NX5.out.lst)
          have HS7 := veil (SZ5.out w5.drew rfl)
          have he := end_any (NX5.out.ok.below (Below.refl _ w5).drew)
          rw [HQ.out.1] at he
          unfold rcA at he
          simp only at he
          have HE7 := veil he
          clear he c4 c5
          refine (wpIn_wide (n := 4)).1 ?_
          refine wpIn_region_any (by kernel_rfl) ?_
          refine anyIn_spine (valNx g m n0 l1 l2) (RNx w5.drew n0 D) undef [15, 16, 17, 18] [55, 56, 57, 58, 59, 60, 61, 62, 63, 64, 65, 66, 67, 68, 69, 70, 71, 72, 73] depNx dclNx (by kernel_rfl) (by decide) rfl (by decide) (by decide) ?ord (by decide) ?h0 ?fix ?cal ?don
          case ord =>
            intro k i j h1 h2
            match k, h1, h2 with
            | 0, h1, h2 =>
              obtain rfl := Option.some.inj h1
              obtain rfl := Option.some.inj h2
              decide
            | 1, h1, h2 =>
              obtain rfl := Option.some.inj h1
              obtain rfl := Option.some.inj h2
              decide
            | 2, h1, h2 =>
              obtain rfl := Option.some.inj h1
              obtain rfl := Option.some.inj h2
              decide
            | 3, _, h2 => simp at h2
            | _ + 4, h1, _ => simp at h1
          case fix =>
            intro x W4 m2 ii d u hR hdi hni hdep hlo hhi
            match ii, hdi, hni, hdep, hhi with
            | 0, hdi, _, _, _ =>
              obtain rfl := Option.some.inj hdi
              with_reducible refine OI_value2 ?_ ?_ ?_ ?_ (.pointer (some ⟨g, 0, none⟩)) W4 ?_ ?_
              · decide
              · kernel_rfl
              · exact (about_none (by intro c h; cases h))
              · intro c h; cases h
              · kernel_rfl
              · exact ⟨rfl, rfl⟩
            | 1, hdi, _, hdep, _ =>
              obtain rfl := Option.some.inj hdi
              rw [updV_self (show x 0 = _ from hdep 0 (by simp [depNx]) (by decide))]
              with_reducible refine OI_value2 ?_ ?_ ?_ ?_ (.pointer (some ⟨g, 0, none⟩)) W4 ?_ ?_
              · decide
              · kernel_rfl
              · exact (about_none (by intro c h; cases h))
              · intro c h; cases h
              · kernel_rfl
              · exact ⟨rfl, rfl⟩
            | 2, hdi, _, hdep, _ =>
              obtain rfl := Option.some.inj hdi
              rw [updV_self (show x 1 = _ from hdep 1 (by simp [depNx]) (by decide))]
              with_reducible refine OI_value2 ?_ ?_ ?_ ?_ (.pointer (some ⟨g, 4, none⟩)) W4 ?_ ?_
              · decide
              · kernel_rfl
              · exact (about_none (by intro c h; cases h))
              · intro c h; cases h
              · kernel_rfl
              · exact ⟨rfl, rfl⟩
            | 3, hdi, _, hdep, hhi =>
              obtain rfl := Option.some.inj hdi
              rw [updV_self (show x 2 = _ from hdep 2 (by simp [depNx]) (by decide))]
              with_reducible refine OI_value2 ?_ ?_ ?_ ?_ (.bool true) W4 ?_ ?_
              · decide
              · kernel_rfl
              · exact (about_none (by intro c h; cases h))
              · intro c h; cases h
              · exact (lgRun_cell 4 _ ⟨g, 4, none⟩ _ _ rfl (by kernel_rfl) Tryz.underlying4 rfl _ (by rw [hR.zero (hhi 0 15 rfl (by decide))]; exact HC4.out))
              · exact ⟨rfl, rfl⟩
            | 4, hdi, _, hdep, _ =>
              obtain rfl := Option.some.inj hdi
              rw [updV_self (show x 3 = _ from hdep 3 (by simp [depNx]) (by decide))]
              with_reducible refine OI_value2 ?_ ?_ ?_ ?_ (.bool true) W4 ?_ ?_
              · decide
              · kernel_rfl
              · exact (about_none (by intro c h; cases h))
              · intro c h; cases h
              · kernel_rfl
              · exact ⟨rfl, rfl⟩
            | 5, hdi, _, hdep, _ =>
              obtain rfl := Option.some.inj hdi
              rw [updV_self (show x 4 = _ from hdep 4 (by simp [depNx]) (by decide))]
              with_reducible refine OI_value2 ?_ ?_ ?_ ?_ (.pointer (some ⟨g, 0, none⟩)) W4 ?_ ?_
              · decide
              · kernel_rfl
              · exact (about_none (by intro c h; cases h))
              · intro c h; cases h
              · kernel_rfl
              · exact ⟨rfl, rfl⟩
            | 6, hdi, _, hdep, _ =>
              obtain rfl := Option.some.inj hdi
              rw [updV_self (show x 5 = _ from hdep 5 (by simp [depNx]) (by decide)), updV_self (show (updV x 5 _) 4 = _ from hdep 4 (by simp [depNx]) (by decide))]
              with_reducible refine OI_value2 ?_ ?_ ?_ ?_ (.pointer (some ⟨g, 0, none⟩)) W4 ?_ ?_
              · decide
              · kernel_rfl
              · exact (about_none (by intro c h; cases h))
              · intro c h; cases h
              · kernel_rfl
              · exact ⟨rfl, rfl⟩
            | 7, hdi, _, hdep, _ =>
              obtain rfl := Option.some.inj hdi
              rw [updV_self (show x 6 = _ from hdep 6 (by simp [depNx]) (by decide)), updV_self (show (updV x 6 _) 4 = _ from hdep 4 (by simp [depNx]) (by decide))]
              with_reducible refine OI_value2 ?_ ?_ ?_ ?_ (.pointer (some ⟨g, 5, none⟩)) W4 ?_ ?_
              · decide
              · kernel_rfl
              · exact (about_none (by intro c h; cases h))
              · intro c h; cases h
              · kernel_rfl
              · exact ⟨rfl, rfl⟩
            | 8, hdi, _, hdep, hhi =>
              obtain rfl := Option.some.inj hdi
              rw [updV_self (show x 7 = _ from hdep 7 (by simp [depNx]) (by decide)), updV_self (show (updV x 7 _) 4 = _ from hdep 4 (by simp [depNx]) (by decide))]
              with_reducible refine OI_value2 ?_ ?_ ?_ ?_ (.int .u64 (m : Int)) W4 ?_ ?_
              · decide
              · kernel_rfl
              · exact (about_none (by intro c h; cases h))
              · intro c h; cases h
              · exact (lgRun_cell 22 _ ⟨g, 5, none⟩ _ _ rfl (by kernel_rfl) Tryz.underlying22 rfl _ (by rw [hR.zero (hhi 0 15 rfl (by decide))]; exact HC5.out))
              · exact ⟨rfl, rfl⟩
            | 9, hdi, _, hdep, _ =>
              obtain rfl := Option.some.inj hdi
              rw [updV_self (show x 4 = _ from hdep 4 (by simp [depNx]) (by decide))]
              with_reducible refine OI_value2 ?_ ?_ ?_ ?_ (.pointer (some ⟨g, 0, none⟩)) W4 ?_ ?_
              · decide
              · kernel_rfl
              · exact (about_none (by intro c h; cases h))
              · intro c h; cases h
              · kernel_rfl
              · exact ⟨rfl, rfl⟩
            | 10, hdi, _, hdep, hhi =>
              obtain rfl := Option.some.inj hdi
              rw [updV_self (show x 9 = _ from hdep 9 (by simp [depNx]) (by decide)), updV_self (show (updV x 9 _) 4 = _ from hdep 4 (by simp [depNx]) (by decide))]
              with_reducible refine OI_call2 ?_ ?_ ?_ 34 #[.pointer (some ⟨g, 0, none⟩)] ?_ ?_ ?_ ?_
              · decide
              · kernel_rfl
              · intro c h; cases h
              · exact fun _ _ => trivial
              · kernel_rfl
              · decide
              · refine (callsIn_wide.2 (by rw [hR.zero (hhi 0 15 rfl (by decide))]; exact HS7.out)).mono ?_
                rintro e w' ⟨rfl, rfl⟩
                exact ⟨_, rfl, rfl, (hR.zero (hhi 0 15 rfl (by decide))).symm⟩
            | 11, hdi, _, hdep, _ =>
              obtain rfl := Option.some.inj hdi
              rw [updV_self (show x 8 = _ from hdep 8 (by simp [depNx]) (by decide)), updV_self (show (updV x 8 _) 10 = _ from hdep 10 (by simp [depNx]) (by decide)), updV_self (show (updV (updV x 8 _) 10 _) 4 = _ from hdep 4 (by simp [depNx]) (by decide))]
              with_reducible refine OI_value2 ?_ ?_ ?_ ?_ (.bool false) W4 ?_ ?_
              · decide
              · kernel_rfl
              · exact (about_none (by intro c h; cases h))
              · intro c h; cases h
              · exact (run_eqlN _ _ _ _ m n0 rfl (by kernel_rfl) (by kernel_rfl) HMN.out _)
              · exact ⟨rfl, rfl⟩
            | 12, hdi, _, hdep, _ =>
              obtain rfl := Option.some.inj hdi
              rw [updV_self (show x 11 = _ from hdep 11 (by simp [depNx]) (by decide)), updV_self (show (updV x 11 _) 4 = _ from hdep 4 (by simp [depNx]) (by decide))]
              with_reducible refine OI_value2 ?_ ?_ ?_ ?_ (.bool false) W4 ?_ ?_
              · decide
              · kernel_rfl
              · exact (about_none (by intro c h; cases h))
              · intro c h; cases h
              · kernel_rfl
              · exact ⟨rfl, rfl⟩
            | 13, hdi, _, hdep, _ =>
              obtain rfl := Option.some.inj hdi
              rw [updV_self (show x 12 = _ from hdep 12 (by simp [depNx]) (by decide))]
              with_reducible refine OI_value2 ?_ ?_ ?_ ?_ (.agg #[.int .u64 (l1 : Int), .int .u64 (l2 : Int)]) W4 ?_ ?_
              · decide
              · kernel_rfl
              · exact (about_none (by intro c h; cases h))
              · intro c h; cases h
              · exact (lgRun_row 77 _ rfl b7 (by kernel_rfl) 77 #[.int .u64 (l1 : Int), .int .u64 (l2 : Int)] 2 _ Tryz.underlying77 (by kernel_rfl) rfl W4 (HL7.out.below hR.bel HL7.out.lt))
              · exact ⟨rfl, rfl⟩
            | 14, hdi, _, hdep, _ =>
              obtain rfl := Option.some.inj hdi
              rw [updV_self (show x 12 = _ from hdep 12 (by simp [depNx]) (by decide))]
              with_reducible refine OI_value2 ?_ ?_ ?_ ?_ (.pointer (some ⟨g, 0, none⟩)) W4 ?_ ?_
              · decide
              · kernel_rfl
              · exact (about_none (by intro c h; cases h))
              · intro c h; cases h
              · kernel_rfl
              · exact ⟨rfl, rfl⟩
            | 15, _, hni, _, _ =>
              exfalso
              exact hni (show (15 : Nat) ∈ ([15, 16, 17, 18] : List Nat) by decide)
            | 16, _, hni, _, _ =>
              exfalso
              exact hni (show (16 : Nat) ∈ ([15, 16, 17, 18] : List Nat) by decide)
            | 17, _, hni, _, _ =>
              exfalso
              exact hni (show (17 : Nat) ∈ ([15, 16, 17, 18] : List Nat) by decide)
            | 18, _, hni, _, _ =>
              exfalso
              exact hni (show (18 : Nat) ∈ ([15, 16, 17, 18] : List Nat) by decide)
            | _ + 19, hdi, _, _, _ => simp at hdi
          case cal =>
            intro x W4 k2 ii d u hR hk hdi hdep hu0 hup
            match k2, hk, hR, hu0, hup with
            | 0, hk, hR, hu0, hup =>
              obtain rfl := Option.some.inj hk
              obtain rfl := Option.some.inj hdi
              obtain rfl := hR
              rw [updV_self (show x 14 = _ from hdep 14 (by simp [depNx]) (by decide)), updV_self (show (updV x 14 _) 12 = _ from hdep 12 (by simp [depNx]) (by decide))]
              with_reducible refine OI_call2 ?_ ?_ ?_ 33 #[.pointer (some ⟨g, 0, none⟩)] ?_ ?_ ?_ ?_
              · decide
              · kernel_rfl
              · intro c h; cases h
              · exact fun _ _ => trivial
              · kernel_rfl
              · decide
              · refine (callsIn_wide.2 HE7.out).mono ?_
                rintro e w' ⟨rfl, hb⟩
                exact ⟨_, rfl, _, rfl, hb, rfl⟩
            | 1, hk, hR, hu0, hup =>
              obtain rfl := Option.some.inj hk
              obtain rfl := Option.some.inj hdi
              have h15 : x 15 = u := hup 0 15 rfl rfl
              rw [hR.2] at h15
              rw [updV_self (show x 13 = _ from hdep 13 (by simp [depNx]) (by decide)), updV_self (show (updV x 13 _) 12 = _ from hdep 12 (by simp [depNx]) (by decide)), updV_self (show (updV (updV x 13 _) 12 _) 15 = _ from h15)]
              with_reducible refine OI_value2 ?_ ?_ ?_ ?_ (.bool D) W4 ?_ ?_
              · decide
              · kernel_rfl
              · exact (about_none (by intro c h; cases h))
              · intro c h; cases h
              · exact run_eqlR _ _ _ _ _ _ _ rfl (by kernel_rfl) (by kernel_rfl) HD.out _
              · exact ⟨_, rfl, hR.1, rfl⟩
            | 2, hk, hR, hu0, hup =>
              obtain rfl := Option.some.inj hk
              obtain rfl := Option.some.inj hdi
              have h16 : x 16 = u := hup 1 16 rfl rfl
              rw [hR.2] at h16
              rw [updV_self (show x 12 = _ from hdep 12 (by simp [depNx]) (by decide)), updV_self (show (updV x 12 _) 4 = _ from hdep 4 (by simp [depNx]) (by decide)), updV_self (show (updV (updV x 12 _) 4 _) 16 = _ from h16)]
              with_reducible refine OI_value2 ?_ ?_ ?_ ?_ (.bool D) W4 ?_ ?_
              · decide
              · kernel_rfl
              · exact (about_none (by intro c h; cases h))
              · intro c h; cases h
              · kernel_rfl
              · exact ⟨_, rfl, hR.1, rfl⟩
            | 3, hk, hR, hu0, hup =>
              obtain rfl := Option.some.inj hk
              obtain rfl := Option.some.inj hdi
              have h17 : x 17 = u := hup 2 17 rfl rfl
              rw [hR.2] at h17
              rw [updV_self (show x 4 = _ from hdep 4 (by simp [depNx]) (by decide)), updV_self (show (updV x 4 _) 17 = _ from h17)]
              with_reducible refine OI_value2 ?_ ?_ ?_ ?_ (.bool D) W4 ?_ ?_
              · decide
              · kernel_rfl
              · exact (about_none (by intro c h; cases h))
              · intro c h; cases h
              · kernel_rfl
              · exact ⟨_, rfl, hR.1, rfl⟩
            | _ + 4, hk, _, _, _ => simp at hk
          case h0 => exact rfl
          case don =>
            rintro x9 W9 u9 hR9 _ hl9
            have h18 : x9 18 = u9 := hl9 3 18 rfl rfl
            have hR9 : Below w5.drew.heap.size w5.drew W9 ∧ u9 = .bool D := hR9
            rw [hR9.2] at h18
            have NXW := veil (NX5.out.below ((Below.refl _ w5).drew.trans hR9.1))
            simp only [putsV, Act.put, List.setIfInBounds_toArray, List.set_cons_succ, List.set_cons_zero, Nat.reduceAdd]
            rw [h18]
            generalize x9 0 = z0, x9 1 = z1, x9 2 = z2, x9 3 = z3, x9 4 = z4, x9 5 = z5, x9 6 = z6, x9 7 = z7, x9 8 = z8, x9 9 = z9, x9 10 = z10, x9 11 = z11, x9 12 = z12, x9 13 = z13, x9 14 = z14, x9 15 = z15, x9 16 = z16, x9 17 = z17
            clear h18 hl9 hR9 NX5 SZ5 HC4 HC5 HL7 HS7 HE7
            cases D with
            | true =>
              have HVE := veil (show V = (n0, n0 + 1) from by rw [HV3.out]; rfl)
              have EC := end_any NXW.out.ok
              rw [HQ.out.1] at EC
              unfold rcA at EC
              simp only at EC
              have EC := veil EC
              go_wp2_with fail
              refine EC.out.mono ?_
              rintro e8 w8 ⟨rfl, hb8⟩
              have NXV := veil (NXW.out.below hb8)
              have HVV := veil (show V = (n0, n0 + 1) from HVE.out)
              clear hb8 EC
              have r0 := NXV.out.res.cell 0
              have r1 := NXV.out.res.cell 1
              have f0 := NXV.out.res.frozen 0
              have f1 := NXV.out.res.frozen 1
              go_wp2_with fail
              have hend := NXV.out.end (.int .u64 (n0 : Int)) (.int .u64 ((n0 + 1 : Nat) : Int))
              refine bodyPost_ret (results_cell_row rfl _ _ w.heap.size 77 #[.int .u64 (n0 : Int), .int .u64 ((n0 + 1 : Nat) : Int)] (0, 0) _ rfl hend.1 Tryz.underlying77 rfl (by kernel_rfl)) rfl ⟨?_, hend.2⟩
              rw [HVV.out]
            | false =>
              have HVZ := veil (show V = (0, 0) from by rw [HV3.out]; rfl)
              have HVV := veil (show V = (0, 0) from HVZ.out)
              have NXV := NXW
              have r0 := NXV.out.res.cell 0
              have r1 := NXV.out.res.cell 1
              have f0 := NXV.out.res.frozen 0
              have f1 := NXV.out.res.frozen 1
              go_wp2_with fail
              have hend := NXV.out.end (.int .u64 0) (.int .u64 0)
              refine bodyPost_ret (results_cell_row rfl _ _ w.heap.size 77 #[.int .u64 0, .int .u64 0] (0, 0) _ rfl hend.1 Tryz.underlying77 rfl (by kernel_rfl)) rfl ⟨?_, hend.2⟩
              rw [HVV.out]; rfl
      · rw [if_neg (fun q => c3 q.1)] at hnx
        have HVZ := veil hnx
        rw [show s.last = false by simpa using c3] at c4
        clear hnx c3
        go_wp2_with fail
        go_quiet (fail)
        have NXW := veil (NX5.out.below (below_drewN (Below.refl _ w5) nq))
        clear NX5 SZ5 c4 c5
        generalize w5.drewN nq = w6 at *
        have HVV := veil (show V = (0, 0) from HVZ.out)
        have NXV := NXW
        have r0 := NXV.out.res.cell 0
        have r1 := NXV.out.res.cell 1
        have f0 := NXV.out.res.frozen 0
        have f1 := NXV.out.res.frozen 1
        go_wp2_with fail
        have hend := NXV.out.end (.int .u64 0) (.int .u64 0)
        refine bodyPost_ret (results_cell_row rfl _ _ w.heap.size 77 #[.int .u64 0, .int .u64 0] (0, 0) _ rfl hend.1 Tryz.underlying77 rfl (by kernel_rfl)) rfl ⟨?_, hend.2⟩
        rw [HVV.out]; rfl
end Sr
end Go.Proofs.YtehadfidenejdaaGreatDoor
