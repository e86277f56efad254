/-
  Written by mksnofy.py: what a frame of its stream tells of a sender.
-/
import Derived.Test.YtehadfidenejdaaGreatDoorGp20
import Derived.Test.YtehadfidenejdaaGreatDoorGp1
namespace Go.Proofs.YtehadfidenejdaaGreatDoor
open Go Go.RowKit

namespace Sr
open Sd
theorem run_convU {P : Program} {a : Act} {o : Oper} (t t' : TypeId) (x : Operand) (r : Nat) (hr : r < 140737488355328) (ho : o.op = .convert t t' x) (hx : a.eval x = .int .i64 (r : Int)) (ht : P.underlying t = some (.int .i64)) (ht' : P.underlying t' = some (.int .u64)) (W : World) :
    (execOp a.eval o).run P W = .ok (.value (.int .u64 (r : Int))) W := by
  have hw : IntKind.u64.wrap (r : Int) = (r : Int) := by rw [IntKind.wrap_u64]; omega
  unfold execOp
  simp only [ho, hx]
  simp [convert, run_underlying ht, run_underlying ht', Conv.intToInt, hw]
theorem run_addW {P : Program} {a : Act} {o : Oper} (t t' : TypeId) (x y : Operand) (m r s : Nat) (hw : IntKind.u64.wrap ((m : Int) + (r : Int)) = (s : Int)) (ho : o.op = .binOp .add t x y t') (hx : a.eval x = .int .u64 (m : Int)) (hy : a.eval y = .int .u64 (r : Int)) (W : World) :
    (execOp a.eval o).run P W = .ok (.value (.int .u64 (s : Int))) W := by
  unfold execOp
  simp only [ho, hx, hy]
  go_simp
theorem run_allocN {P : Program} {a : Act} {o : Oper} (t : TypeId) (cs : Array Value) (ho : o.op = .alloc t) (hz : (P.info? t).map (·.zero) = some (some (.agg cs))) (w : World) : (execOp a.eval o).run P w = .ok (.value (.pointer (some ⟨w.heap.size, 0, none⟩))) (w.alloc (.cells cs t)) := by
  have hzv : (zeroValue t).run P w = .ok (.agg cs) w := by
    cases hq : P.info? t with
    | none => simp [hq] at hz
    | some i =>
      have : i.zero = some (.agg cs) := by simpa [hq] using hz
      simp [zeroValue, typeInfo, hq, this]
  unfold execOp
  simp only [ho, Instr.alloc, Sem.run_bind, hzv, Result.andThen_ok, newVar, newRow, Value.cells, run_newObj_alloc, Sem.run_pure]
def ROf (q : World) (p t : Nat) : Nat → World → Value → Prop
  | 0, W, _ => Below q.heap.size q W ∧ W.heap.size = q.heap.size
  | 1, W, u => u = .pointer (some ⟨q.heap.size, 0, none⟩) ∧ Below q.heap.size q W ∧ Row W q.heap.size 77 #[.int .u64 0, .int .u64 0]
  | _, W, _ => Below q.heap.size q W ∧ Row W q.heap.size 77 #[.int .u64 (p : Int), .int .u64 (t : Int)]
theorem ROf.bel {q W : World} {p t m : Nat} {u : Value} (h : ROf q p t m W u) : Below q.heap.size q W := by
  match m, h with
  | 0, h => exact h.1
  | 1, h => exact h.2.1
  | _ + 2, h => exact h.1
theorem ROf.drew {q W : World} {p t m : Nat} {u : Value} (h : ROf q p t m W u) (n : Nat) : ROf q p t m (W.drewN n) u := by
  have hb := below_drewN (Below.refl W.heap.size W) n
  match m, h with
  | 0, h => exact ⟨below_drewN h.1 n, h.2⟩
  | 1, h => exact ⟨h.1, below_drewN h.2.1 n, h.2.2.below hb h.2.2.lt⟩
  | _ + 2, h => exact ⟨below_drewN h.1 n, h.2.below hb h.2.lt⟩
/-- What is told of a frame. -/
def OfP (s : Snd) (p : Nat) (d : List By) (n : Nat) (fin : Bool) (e : Ending) : Prop := ∃ r, e = .returned (.tuple #[rcA r, .bool (decide (Mine s p d fin))]) ∧ (Mine s p d fin → r = plF p n fin)
def RO8 (q : World) (b p t : Nat) : Nat → World → Value → Prop
  | 0, W, _ => KeepP (fun k => k = b) q W ∧ Row W b 77 #[.int .u64 0, .int .u64 0]
  | _, W, _ => KeepP (fun k => k = b) q W ∧ Row W b 77 #[.int .u64 (p : Int), .int .u64 (t : Int)]
theorem RO8.keep {q W : World} {b p t m : Nat} {u : Value} (h : RO8 q b p t m W u) : KeepP (fun k => k = b) q W := by
  match m, h with
  | 0, h => exact h.1
  | _ + 1, h => exact h.1
theorem RO8.below {q W W' : World} {b p t m : Nat} {u : Value} (h : RO8 q b p t m W u) (hb : Below W.heap.size W W') : RO8 q b p t m W' u := by
  match m, h with
  | 0, h => exact ⟨h.1.trans (KeepP.of_below hb), h.2.below hb h.2.lt⟩
  | _ + 1, h => exact ⟨h.1.trans (KeepP.of_below hb), h.2.below hb h.2.lt⟩
theorem run_eqlB {P : Program} {a : Act} {o : Oper} (t t' : TypeId) (x y : Operand) (p q : Nat) (D : Bool) (ho : o.op = .binOp .eql t x y t') (hx : a.eval x = .int .u64 (p : Int)) (hy : a.eval y = .int .u64 (q : Int)) (hD : decide (p = q) = D) (W : World) :
    (execOp a.eval o).run P W = .ok (.value (.bool D)) W := by
  subst hD
  unfold execOp
  simp only [ho, hx, hy]
  by_cases c : p = q
  · subst c
    simp only [decide_true]
    go_simp
  · have e : ¬ (p : Int) = (q : Int) := by omega
    simp only [c, decide_false]
    go_simp
theorem of_fin {s : Snd} {p dl fr tt t1 n0 n1 m : Nat} {b : List By} {D1 D2 : Bool} (hx : tt = p + dl ∧ b.length = dl ∧ p ≤ fr ∧ tt ≤ fr) (he : b = Sd.cut s.b p tt) (hfr : s.fresh = fr) (hl : fr ≤ s.b.length ∧ s.b.length ≤ 1048576) (ht : tt + 1 = t1) (hs : s.b.length = n0 ∧ s.b.length + 1 = n1 ∧ sn s = m) (hf : Fine s) (h1 : decide (t1 = n1) = D1) (h2 : decide (t1 = m) = D2) :
    decide (Mine s p b true) = (D1 && D2) := by
  obtain ⟨x1, x2, x3, x4⟩ := hx
  obtain ⟨s1, s2, s3⟩ := hs
  subst h1 h2
  rw [Bool.eq_iff_iff, Bool.and_eq_true, decide_eq_true_eq, decide_eq_true_eq, decide_eq_true_eq]
  unfold Mine
  rw [hfr, x2, ← x1]
  unfold sn at s3
  constructor
  · rintro ⟨_, _, _, h4⟩
    obtain ⟨_, h5, h6⟩ := h4 rfl
    rw [if_neg h5] at s3
    omega
  · rintro ⟨h4, h5⟩
    refine ⟨x3, by omega, he, fun _ => ?_⟩
    by_cases c : s.fin = 0
    · rw [if_pos c] at s3; omega
    · exact ⟨(hf.ended c).1, c, by omega⟩
def KOf (q : World) : Nat → Value → Prop
  | 0, v => v = .pointer (some ⟨q.heap.size, 0, none⟩)
  | _, _ => True
def depOf : Nat → List Nat
  | 0 => []
  | 1 => [0]
  | 2 => []
  | 3 => [2]
  | 4 => []
  | 5 => [4]
  | 6 => [5]
  | 7 => [6]
  | 8 => [3, 7]
  | 9 => [1, 8]
  | 10 => []
  | 11 => [10]
  | 12 => []
  | 13 => [12, 9]
  | 14 => [11]
  | _ => []
def dclOf : Nat → List Nat
  | 1 => [0]
  | 3 => [2]
  | 5 => [4]
  | 6 => [4, 5]
  | 7 => [4, 5, 6]
  | 8 => [2, 3, 4, 5, 6, 7]
  | 9 => [0, 1, 2, 3, 4, 5, 6, 7, 8]
  | 11 => [10]
  | 13 => [0, 1, 2, 3, 4, 5, 6, 7, 8, 9, 12]
  | 14 => [10, 11]
  | _ => []
def valOf (B g p t fr dl dc : Nat) (da : Option Addr) : Nat → Value
  | 0 => .pointer (some ⟨B, 2, none⟩)
  | 1 => .int .u64 (p : Int)
  | 2 => .pointer (some ⟨B, 2, none⟩)
  | 3 => .int .u64 (p : Int)
  | 4 => .pointer (some ⟨B, 6, none⟩)
  | 5 => .slice da dl dc
  | 6 => .int .i64 (dl : Int)
  | 7 => .int .u64 (dl : Int)
  | 8 => .int .u64 (t : Int)
  | 9 => .agg #[.int .u64 (p : Int), .int .u64 (t : Int)]
  | 10 => .pointer (some ⟨g, 0, none⟩)
  | 11 => .int .u64 (fr : Int)
  | 14 => .int .u64 (fr : Int)
  | _ => undef
def depO8 : Nat → List Nat
  | 0 => []
  | 1 => []
  | 2 => [1]
  | 3 => []
  | 4 => [3]
  | 5 => [4]
  | 6 => [2, 5]
  | 7 => [6]
  | 8 => [7]
  | 9 => [8, 7]
  | 10 => [7]
  | 11 => [10, 7]
  | 12 => [11, 7]
  | 13 => [12, 7]
  | 14 => [9, 13, 7]
  | 15 => [7, 14]
  | 16 => [0]
  | 17 => [15]
  | _ => []
def dclO8 : Nat → List Nat
  | 2 => [1]
  | 4 => [3]
  | 5 => [3, 4]
  | 6 => [1, 2, 3, 4, 5]
  | 7 => [1, 2, 3, 4, 5, 6]
  | 8 => [1, 2, 3, 4, 5, 6, 7]
  | 9 => [1, 2, 3, 4, 5, 6, 7, 8]
  | 10 => [1, 2, 3, 4, 5, 6, 7]
  | 11 => [1, 2, 3, 4, 5, 6, 7, 10]
  | 12 => [1, 2, 3, 4, 5, 6, 7, 10, 11]
  | 13 => [1, 2, 3, 4, 5, 6, 7, 10, 11, 12]
  | 14 => [1, 2, 3, 4, 5, 6, 7, 8, 9, 10, 11, 12, 13]
  | 15 => [1, 2, 3, 4, 5, 6, 7, 8, 9, 10, 11, 12, 13, 14]
  | 16 => [0]
  | 17 => [1, 2, 3, 4, 5, 6, 7, 8, 9, 10, 11, 12, 13, 14, 15]
  | _ => []
def valO8 (N g p t n0 n1 m : Nat) (D2 : Bool) : Nat → Value
  | 0 => .agg #[.int .u64 (p : Int), .int .u64 (t : Int)]
  | 1 => .pointer (some ⟨N, 1, none⟩)
  | 2 => .int .u64 (t : Int)
  | 3 => .pointer (some ⟨g, 0, none⟩)
  | 4 => .agg #[.int .u64 (n0 : Int), .int .u64 (n1 : Int)]
  | 5 => .int .u64 (n1 : Int)
  | 6 => .bool true
  | 7 => .bool true
  | 8 => .pointer (some ⟨N, 1, none⟩)
  | 9 => .int .u64 (t : Int)
  | 10 => .pointer (some ⟨g, 0, none⟩)
  | 11 => .pointer (some ⟨g, 0, none⟩)
  | 12 => .pointer (some ⟨g, 5, none⟩)
  | 13 => .int .u64 (m : Int)
  | 14 => .bool D2
  | 15 => .bool D2
  | 17 => .bool D2
  | _ => undef
def depO9 : Nat → List Nat
  | 0 => []
  | 1 => []
  | 2 => [1]
  | 3 => []
  | 4 => [3]
  | 5 => [4]
  | 6 => [2, 5]
  | 7 => [6]
  | 8 => [7]
  | 9 => [8, 7]
  | 10 => [7]
  | 11 => [10, 7]
  | 12 => [11, 7]
  | 13 => [12, 7]
  | 14 => [9, 13, 7]
  | 15 => [7, 14]
  | 16 => [0]
  | 17 => [15]
  | _ => []
def dclO9 : Nat → List Nat
  | 2 => [1]
  | 4 => [3]
  | 5 => [3, 4]
  | 6 => [1, 2, 3, 4, 5]
  | 7 => [1, 2, 3, 4, 5, 6]
  | 8 => [1, 2, 3, 4, 5, 6, 7]
  | 9 => [1, 2, 3, 4, 5, 6, 7, 8]
  | 10 => [1, 2, 3, 4, 5, 6, 7]
  | 11 => [1, 2, 3, 4, 5, 6, 7, 10]
  | 12 => [1, 2, 3, 4, 5, 6, 7, 10, 11]
  | 13 => [1, 2, 3, 4, 5, 6, 7, 10, 11, 12]
  | 14 => [1, 2, 3, 4, 5, 6, 7, 8, 9, 10, 11, 12, 13]
  | 15 => [1, 2, 3, 4, 5, 6, 7, 8, 9, 10, 11, 12, 13, 14]
  | 16 => [0]
  | 17 => [1, 2, 3, 4, 5, 6, 7, 8, 9, 10, 11, 12, 13, 14, 15]
  | _ => []
def valO9 (N g p t n0 n1 : Nat) : Nat → Value
  | 0 => .agg #[.int .u64 (p : Int), .int .u64 (t : Int)]
  | 1 => .pointer (some ⟨N, 1, none⟩)
  | 2 => .int .u64 (t : Int)
  | 3 => .pointer (some ⟨g, 0, none⟩)
  | 4 => .agg #[.int .u64 (n0 : Int), .int .u64 (n1 : Int)]
  | 5 => .int .u64 (n1 : Int)
  | 6 => .bool false
  | 7 => .bool false
  | 8 => undef
  | 9 => undef
  | 10 => undef
  | 11 => undef
  | 12 => undef
  | 13 => undef
  | 14 => undef
  | 15 => .bool false
  | 17 => .bool false
  | _ => undef
set_option maxHeartbeats 4000000 in
set_option maxRecDepth 20000 in
theorem of_yes {w : World} {g : Nat} {wr cm ls : Value} {s : Snd} {C L : List Rn} (h : SnOk w g wr cm ls s C L) (f : FrM) (hf : f.Ok w) (hdl : f.data.len < 140737488355328) (hyes : headB s f = true) :
    Calls Tryz.prog 93 #[.pointer (some ⟨g, 0, none⟩), .agg f.cells] w fun e w' => OfP s f.offset f.data.b f.data.len f.fin e ∧ Below w.heap.size w w' := by
  obtain ⟨hb0, q1, q2⟩ := of_start (w := w) f.cells
  have hok := h.below hb0
  have hfo := hf.data.below hb0
  have c1 := hok.row.cell 1
  have hof := hf.of
  unfold snC at c1
  unfold headB at hyes
  obtain ⟨kd, st, of_, li, co, fi, D, ⟨ra, rl, rc, rg, ro, rb⟩⟩ := f
  obtain ⟨da, hda⟩ : ∃ da, D.a = da := ⟨_, rfl⟩
  obtain ⟨dl, hdl2⟩ : ∃ dl, D.len = dl := ⟨_, rfl⟩
  obtain ⟨dc, hdc⟩ : ∃ dc, D.cap = dc := ⟨_, rfl⟩
  unfold FrM.cells at *
  simp only at *
  simp only [hda, hdl2, hdc] at hdl hb0 hok hfo q1 q2 c1 ⊢
  obtain ⟨id, hid⟩ : ∃ id, s.id = id := ⟨_, rfl⟩
  rw [hid] at c1 hyes
  simp only [Bool.and_eq_true, beq_iff_eq] at hyes
  obtain ⟨⟨⟨⟨e0, e1⟩, e2⟩, e3⟩, e4⟩ := hyes
  have n0 : ((kd : Int) != 7) = false := by rw [bne_eq_false_iff_eq]; omega
  have n1 : ((st : Int) != (id : Int)) = false := by rw [bne_eq_false_iff_eq]; omega
  have n2 : ((li : Int) != 0) = false := by rw [bne_eq_false_iff_eq]; omega
  have n3 : ((co : Int) != 0) = false := by rw [bne_eq_false_iff_eq]; omega
  have n4 : ¬ (0 : Int) < (rl : Int) := by omega
  obtain ⟨tt, htt⟩ : ∃ tt : Nat, IntKind.u64.wrap ((of_ : Int) + (dl : Int)) = (tt : Int) := by
    rw [IntKind.wrap_u64]
    exact ⟨(((of_ : Int) + (dl : Int)) % 18446744073709551616).toNat, by omega⟩
  have HT := veil (show IntKind.u64.wrap ((of_ : Int) + (dl : Int)) = (tt : Int) ∧ dl < 140737488355328 from ⟨htt, hdl⟩)
  have HOWN := veil h.lt
  have HB := veil hb0
  have Q1 := veil q1
  have Q2 := veil q2
  have OK := veil hok
  have FO := veil hfo
  have HD := veil (show D.a = da ∧ D.len = dl ∧ D.cap = dc ∧ of_ < 18446744073709551616 from ⟨hda, hdl2, hdc, hof⟩)
  clear e0 e1 e2 e3 e4 h hb0 q1 q2 hid hok hfo hf htt hdl hda hdl2 hdc hof
  go_enter Tryz.func93, Tryz.ntmps93
  go_wp2_with fail
  generalize ((w.alloc (.cells #[.int .u8 (kd : Int), .int .u64 (st : Int), .int .u64 (of_ : Int), .int .u64 (li : Int), .int .u64 (co : Int), .bool fi, .slice da dl dc, .slice ra rl rc] 28)).alloc (.cells #[.int .u64 0, .int .u64 0] 77)) = w0 at *
  have k0 := Q1.out.cell 0
  have k1 := Q1.out.cell 1
  have k3 := Q1.out.cell 3
  have k4 := Q1.out.cell 4
  have k7 := Q1.out.cell 7
  go_quiet (fail)
  have HB1 := veil (HB.out.trans ((below_drewN (Below.refl _ w0) nq).mono HB.out.size))
  have QF1 := veil (Q1.out.below (below_drewN (Below.refl _ w0) nq) Q1.out.lt)
  have Q21 := veil (Q2.out.below (below_drewN (Below.refl _ w0) nq) Q2.out.lt)
  have OK1 := veil (OK.out.below (below_drewN (Below.refl _ w0) nq))
  have FO1 := veil (FO.out.below (below_drewN (Below.refl _ w0) nq))
  clear n0 n1 n2 n3 k0 k1 k3 k4 k7 c1 HB Q1 Q2 OK FO
  generalize w0.drewN nq = w1 at *
  go_wp2_with fail
  clear n4
  have QF := veil (QF1.out.below (below_drewN (Below.refl _ w1) 1) QF1.out.lt : Row w1.drew _ _ _)
  have OKq := veil (OK1.out.below (below_drewN (Below.refl _ w1) 1) : SnOk w1.drew _ _ _ _ _ _ _)
  obtain ⟨fr, hfr⟩ : ∃ fr, s.fresh = fr := ⟨_, rfl⟩
  have HFR := veil hfr
  have FR := veil (show ∀ W, Below w1.drew.heap.size w1.drew W → Calls Tryz.prog 9 #[.pointer (some ⟨g, 0, none⟩)] W (fun e w' => e = .returned (.int .u64 (fr : Int)) ∧ ∃ q, w' = W.drewN q) from fun W hW => hfr ▸ fresh_q (OKq.out.below hW))
  clear hfr
  refine (wpIn_wide (n := 4)).1 ?_
  refine wpIn_region_any (by kernel_rfl) ?_
  refine anyIn_spine3 (valOf w.heap.size g of_ tt fr dl dc da) (KOf w1.drew) (ROf w1.drew of_ tt) undef [12, 13] [37, 38, 39, 40, 41, 42, 43, 44, 45, 46, 47, 48, 6, 100000, 7] depOf dclOf (by kernel_rfl) (by decide) rfl (by decide) (by decide) ?ord (by decide) ?h0 ?fix ?cal ?don
  case ord =>
    intro k i j h1 h2
    match k, h1, h2 with
    | 0, h1, h2 =>
      obtain rfl := Option.some.inj h1
      obtain rfl := Option.some.inj h2
      decide
    | 1, _, h2 => simp at h2
    | _ + 2, h1, _ => simp at h1
  case fix =>
    intro x W4 m2 ii d u hR hdi hni hdep hlo hhi
    match ii, hdi, hni, hdep with
    | 0, hdi, _, _ =>
      obtain rfl := Option.some.inj hdi
      with_reducible refine OI_value2 ?_ ?_ ?_ ?_ (.pointer (some ⟨w.heap.size, 2, none⟩)) W4 ?_ ?_
      · decide
      · kernel_rfl
      · exact (about_none (by intro c h; cases h))
      · intro c h; cases h
      · kernel_rfl
      · exact ⟨rfl, hR⟩
    | 1, hdi, _, hdep =>
      obtain rfl := Option.some.inj hdi
      rw [updV_self (show x 0 = _ from hdep 0 (by simp [depOf]) (by decide))]
      with_reducible refine OI_value2 ?_ ?_ ?_ ?_ (.int .u64 (of_ : Int)) W4 ?_ ?_
      · decide
      · kernel_rfl
      · exact (about_none (by intro c h; cases h))
      · intro c h; cases h
      · exact (lgRun_cell 22 _ ⟨w.heap.size, 2, none⟩ _ _ rfl (by kernel_rfl) Tryz.underlying22 rfl _ ((QF.out.below hR.bel QF.out.lt).cell 2))
      · exact ⟨rfl, hR⟩
    | 2, hdi, _, _ =>
      obtain rfl := Option.some.inj hdi
      with_reducible refine OI_value2 ?_ ?_ ?_ ?_ (.pointer (some ⟨w.heap.size, 2, none⟩)) W4 ?_ ?_
      · decide
      · kernel_rfl
      · exact (about_none (by intro c h; cases h))
      · intro c h; cases h
      · kernel_rfl
      · exact ⟨rfl, hR⟩
    | 3, hdi, _, hdep =>
      obtain rfl := Option.some.inj hdi
      rw [updV_self (show x 2 = _ from hdep 2 (by simp [depOf]) (by decide))]
      with_reducible refine OI_value2 ?_ ?_ ?_ ?_ (.int .u64 (of_ : Int)) W4 ?_ ?_
      · decide
      · kernel_rfl
      · exact (about_none (by intro c h; cases h))
      · intro c h; cases h
      · exact (lgRun_cell 22 _ ⟨w.heap.size, 2, none⟩ _ _ rfl (by kernel_rfl) Tryz.underlying22 rfl _ ((QF.out.below hR.bel QF.out.lt).cell 2))
      · exact ⟨rfl, hR⟩
    | 4, hdi, _, _ =>
      obtain rfl := Option.some.inj hdi
      with_reducible refine OI_value2 ?_ ?_ ?_ ?_ (.pointer (some ⟨w.heap.size, 6, none⟩)) W4 ?_ ?_
      · decide
      · kernel_rfl
      · exact (about_none (by intro c h; cases h))
      · intro c h; cases h
      · kernel_rfl
      · exact ⟨rfl, hR⟩
    | 5, hdi, _, hdep =>
      obtain rfl := Option.some.inj hdi
      rw [updV_self (show x 4 = _ from hdep 4 (by simp [depOf]) (by decide))]
      with_reducible refine OI_value2 ?_ ?_ ?_ ?_ (.slice da dl dc) W4 ?_ ?_
      · decide
      · kernel_rfl
      · exact (about_none (by intro c h; cases h))
      · intro c h; cases h
      · exact (lgRun_cell 24 _ ⟨w.heap.size, 6, none⟩ _ _ rfl (by kernel_rfl) Tryz.underlying24 rfl _ ((QF.out.below hR.bel QF.out.lt).cell 6))
      · exact ⟨rfl, hR⟩
    | 6, hdi, _, hdep =>
      obtain rfl := Option.some.inj hdi
      rw [updV_self (show x 5 = _ from hdep 5 (by simp [depOf]) (by decide))]
      with_reducible refine OI_value2 ?_ ?_ ?_ ?_ (.int .i64 (dl : Int)) W4 ?_ ?_
      · decide
      · kernel_rfl
      · exact (about_builtin _ _ _ rfl)
      · intro c h; cases h
      · kernel_rfl
      · exact ⟨rfl, hR⟩
    | 7, hdi, _, hdep =>
      obtain rfl := Option.some.inj hdi
      rw [updV_self (show x 6 = _ from hdep 6 (by simp [depOf]) (by decide))]
      with_reducible refine OI_value2 ?_ ?_ ?_ ?_ (.int .u64 (dl : Int)) W4 ?_ ?_
      · decide
      · kernel_rfl
      · exact (about_none (by intro c h; cases h))
      · intro c h; cases h
      · exact (run_convU _ _ _ dl HT.out.2 rfl (by kernel_rfl) Tryz.underlying3 Tryz.underlying22 _)
      · exact ⟨rfl, hR⟩
    | 8, hdi, _, hdep =>
      obtain rfl := Option.some.inj hdi
      rw [updV_self (show x 3 = _ from hdep 3 (by simp [depOf]) (by decide)), updV_self (show (updV x 3 _) 7 = _ from hdep 7 (by simp [depOf]) (by decide))]
      with_reducible refine OI_value2 ?_ ?_ ?_ ?_ (.int .u64 (tt : Int)) W4 ?_ ?_
      · decide
      · kernel_rfl
      · exact (about_none (by intro c h; cases h))
      · intro c h; cases h
      · exact (run_addW _ _ _ _ of_ dl tt HT.out.1 rfl (by kernel_rfl) (by kernel_rfl) _)
      · exact ⟨rfl, hR⟩
    | 9, hdi, _, hdep =>
      obtain rfl := Option.some.inj hdi
      rw [updV_self (show x 1 = _ from hdep 1 (by simp [depOf]) (by decide)), updV_self (show (updV x 1 _) 8 = _ from hdep 8 (by simp [depOf]) (by decide))]
      with_reducible refine OI_value2 ?_ ?_ ?_ ?_ (.agg #[.int .u64 (of_ : Int), .int .u64 (tt : Int)]) W4 ?_ ?_
      · decide
      · kernel_rfl
      · exact (about_none (by intro c h; cases h))
      · intro c h; cases h
      · kernel_rfl
      · exact ⟨rfl, hR⟩
    | 10, hdi, _, _ =>
      obtain rfl := Option.some.inj hdi
      with_reducible refine OI_value2 ?_ ?_ ?_ ?_ (.pointer (some ⟨g, 0, none⟩)) W4 ?_ ?_
      · decide
      · kernel_rfl
      · exact (about_none (by intro c h; cases h))
      · intro c h; cases h
      · kernel_rfl
      · exact ⟨rfl, hR⟩
    | 11, hdi, _, hdep =>
      obtain rfl := Option.some.inj hdi
      rw [updV_self (show x 10 = _ from hdep 10 (by simp [depOf]) (by decide))]
      with_reducible refine OI_call2 ?_ ?_ ?_ 9 #[.pointer (some ⟨g, 0, none⟩)] ?_ ?_ ?_ ?_
      · decide
      · kernel_rfl
      · intro c h; cases h
      · exact fun _ _ => trivial
      · kernel_rfl
      · decide
      · refine (callsIn_wide.2 (FR.out W4 hR.bel)).mono ?_
        rintro e w' ⟨rfl, q, rfl⟩
        exact ⟨_, rfl, rfl, hR.drew q⟩
    | 12, _, hni, _ => (exfalso; exact hni (by decide))
    | 13, _, hni, _ => (exfalso; exact hni (by decide))
    | 14, hdi, _, hdep =>
      obtain rfl := Option.some.inj hdi
      rw [updV_self (show x 11 = _ from hdep 11 (by simp [depOf]) (by decide))]
      with_reducible refine OI_value2 ?_ ?_ ?_ ?_ (.int .u64 (fr : Int)) W4 ?_ ?_
      · decide
      · kernel_rfl
      · exact (about_none (by intro c h; cases h))
      · intro c h; cases h
      · kernel_rfl
      · exact ⟨rfl, hR⟩
    | _ + 15, hdi, _, _ => simp at hdi
  case cal =>
    intro x W4 k2 ii d u hR hk hdi hdep hu0 hup hK
    match k2, hk, hR, hu0, hup with
    | 0, hk, hR, hu0, hup =>
      obtain rfl := Option.some.inj hk
      obtain rfl := Option.some.inj hdi
      have e1 := hR.2
      exact OI_value rfl rfl (about_none (by intro c h; cases h)) (by intro c h; cases h) (.pointer (some ⟨W4.heap.size, 0, none⟩)) (W4.alloc (.cells #[.int .u64 0, .int .u64 0] 77)) (run_allocN 77 #[.int .u64 0, .int .u64 0] rfl (by kernel_rfl) W4) ⟨_, rfl, ⟨by rw [e1], hR.1.alloc (Nat.le_of_eq e1.symm) _, e1 ▸ Row.new W4 _ _⟩, by show _ = _; rw [e1]⟩
    | 1, hk, hR, hu0, hup =>
      obtain rfl := Option.some.inj hk
      obtain rfl := Option.some.inj hdi
      have h12 : x 12 = u := hup 0 12 rfl rfl
      rw [hR.1] at h12
      rw [updV_self (show x 9 = _ from hdep 9 (by simp [depOf]) (by decide)), updV_self (show (updV x 9 _) 12 = _ from h12)]
      exact OI_skip rfl rfl (about_none (by intro c h; cases h)) (by intro c h; cases h) _ (run_store_row 77 _ _ rfl w1.drew.heap.size #[.int .u64 (of_ : Int), .int .u64 (tt : Int)] (by kernel_rfl) (by kernel_rfl) 77 _ hR.2.2 2 (by kernel_rfl) rfl rfl (by simp [Value.oneCell'])) ⟨undef, (lgPut_none _ _).trans (put_far _ _ _ (by rw [puts_size]; exact Nat.le_of_ble_eq_true rfl)).symm, ⟨bSetRow hR.2.1 (Nat.le_refl _) _, hR.2.2.put _⟩, trivial⟩
    | _ + 2, hk, _, _, _ => simp at hk
  case h0 => exact ⟨Below.refl _ _, rfl⟩
  case don =>
    intro x W4 u hR hfx _ hK
    have hR : Below w1.drew.heap.size w1.drew W4 ∧ Row W4 w1.drew.heap.size 77 #[.int .u64 (of_ : Int), .int .u64 (tt : Int)] := hR
    simp only [putsV, Act.put, List.setIfInBounds_toArray, List.set_cons_succ, List.set_cons_zero, List.set_nil, Nat.reduceAdd]
    rw [show x 12 = .pointer (some ⟨w1.drew.heap.size, 0, none⟩) from hK 0 12 rfl, show x 14 = .int .u64 (fr : Int) from hfx 14 (by decide) (by decide)]
    generalize x 0 = z0, x 1 = z1, x 2 = z2, x 3 = z3, x 4 = z4, x 5 = z5, x 6 = z6, x 7 = z7, x 8 = z8, x 9 = z9, x 10 = z10, x 11 = z11, x 13 = z13
    have hq : Below w.heap.size w w1.drew := HB1.out.trans ((below_drewN (Below.refl _ w1) 1).mono HB1.out.size)
    have HB4 := veil (hq.trans (hR.1.mono hq.size))
    have QF4 := veil (QF.out.below hR.1 QF.out.lt)
    have Q24 := veil (((Q21.out.below (below_drewN (Below.refl _ w1) 1) Q21.out.lt : Row w1.drew _ _ _)).below hR.1 ((Q21.out.below (below_drewN (Below.refl _ w1) 1) Q21.out.lt : Row w1.drew _ _ _)).lt)
    have OK4 := veil (OKq.out.below hR.1)
    have FO4 := veil ((FO1.out.below (below_drewN (Below.refl _ w1) 1) : D.Ok w1.drew).below hR.1)
    have N4 := veil hR.2
    have HNN := veil (show w.heap.size + 1 < w1.drew.heap.size from (Q21.out.below (below_drewN (Below.refl _ w1) 1) Q21.out.lt : Row w1.drew _ _ _).lt)
    clear hR hfx hK FR OKq QF FO1 OK1 Q21 QF1 HB1 hq
    generalize w1.drew.heap.size = N at *
    go_wp2_with fail
    have hfl := OK4.out.rep.fine.fr
    have hln := OK4.out.rep.fine.len
    rw [HFR.out] at hfl
    have HL := veil (show fr ≤ s.b.length ∧ s.b.length ≤ 1048576 from ⟨hfl, hln⟩)
    have hw2 := HT.out.1
    rw [IntKind.wrap_u64] at hw2
    have hdb : D.b.length = dl := FO4.out.hb.trans HD.out.2.1
    have r0 := Q24.out.cell 0
    have r1 := Q24.out.cell 1
    have f0 := Q24.out.frozen 0
    have f1 := Q24.out.frozen 1
    have k2 := QF4.out.cell 2
    by_cases cA : fr < of_
    · have hm : ¬ Mine s of_ D.b fi := fun h => by have := h.1; rw [HFR.out] at this; omega
      have HM := veil hm
      have i1 : (fr : Int) < (of_ : Int) := by omega
      clear cA hm hw2 hdb hfl hln
      go_quiet (fail)
      go_wp2_with fail
      have Q3 := Q24.out.below (below_drewN (Below.refl _ W4) nq) Q24.out.lt
      refine bodyPost_ret (result_two rfl _ _ (w.heap.size + 1) 77 _ ((Q3.set 0 _).set 1 _) 2 _ _ rfl rfl Tryz.underlying77 (by kernel_rfl) rfl) rfl ⟨⟨(0, 0), by rw [decide_eq_false HM.out]; rfl, fun h => absurd h HM.out⟩, ?_⟩
      have hle : w.heap.size ≤ w.heap.size + 1 := Nat.le_succ _
      exact ((HB4.out.trans ((below_drewN (Below.refl _ W4) nq).mono HB4.out.size)).setCell (p := ⟨w.heap.size + 1, 0, none⟩) hle _).setCell (p := ⟨w.heap.size + 1, 1, none⟩) hle _
    · by_cases cB : fr < tt
      · have hm : ¬ Mine s of_ D.b fi := fun h => by have := h.2.1; rw [HFR.out, hdb] at this; have := HD.out.2.2.2; have := HT.out.2; omega
        have HM := veil hm
        have i1 : ¬ (fr : Int) < (of_ : Int) := by omega
        have i2 : (fr : Int) < (tt : Int) := by omega
        have m1 := N4.out.cell 1
        clear cA cB hm hw2 hdb hfl hln
        go_quiet (fail)
        go_wp2_with fail
        have Q3 := Q24.out.below (below_drewN (Below.refl _ W4) nq) Q24.out.lt
        refine bodyPost_ret (result_two rfl _ _ (w.heap.size + 1) 77 _ ((Q3.set 0 _).set 1 _) 2 _ _ rfl rfl Tryz.underlying77 (by kernel_rfl) rfl) rfl ⟨⟨(0, 0), by rw [decide_eq_false HM.out]; rfl, fun h => absurd h HM.out⟩, ?_⟩
        have hle : w.heap.size ≤ w.heap.size + 1 := Nat.le_succ _
        exact ((HB4.out.trans ((below_drewN (Below.refl _ W4) nq).mono HB4.out.size)).setCell (p := ⟨w.heap.size + 1, 0, none⟩) hle _).setCell (p := ⟨w.heap.size + 1, 1, none⟩) hle _
      · have htt : tt = of_ + dl := by have := HD.out.2.2.2; have := HT.out.2; omega
        have i1 : ¬ (fr : Int) < (of_ : Int) := by omega
        have i2 : ¬ (fr : Int) < (tt : Int) := by omega
        obtain ⟨a, c2, s1, hsr, _⟩ := sl_anyK (P := Tryz.prog) W4 24 .u64 Tryz.underlying24 (by kernel_rfl) OK4.out.wrow (l := of_) (j := tt) (by omega) (by omega)
        have hdd : tt - of_ = dl := by omega
        rw [hdd] at s1 hsr
        have hcut : (((vb s.b).drop (of_ * 1)).take (dl * 1)) = vb (Sd.cut s.b of_ tt) := by
          unfold Sd.cut vb
          rw [Nat.mul_one, Nat.mul_one, hdd, List.map_take, List.map_drop]
        rw [hcut] at hsr
        obtain ⟨E, hE⟩ : ∃ E, decide (D.b = Sd.cut s.b of_ tt) = E := ⟨_, rfl⟩
        have EQ := veil (show ∀ W : World, W.heap = W4.heap → Calls Tryz.prog 126 #[.slice da dl dc, .slice a dl c2] W (fun e w' => e = .returned (.bool E) ∧ w' = W) from fun W hW => by
          have h1 := bIn_sl (FO4.out.same (w' := W) (fun _ => by rw [hW]) (by rw [hW]; exact Nat.le_refl _))
          rw [HD.out.1, HD.out.2.1] at h1
          have h2 := bIn_row (hsr W (OK4.out.wrow.same (fun k _ => by rw [hW])))
          have := equal_any (c := dc) (d := c2) h1 h2
          rw [hE] at this
          exact this)
        have c3 := OK4.out.row.cell 3
        unfold snC at c3
        have k6 := QF4.out.cell 6
        have m0 := N4.out.cell 0
        have m1 := N4.out.cell 1
        have HX := veil (show tt = of_ + dl ∧ D.b.length = dl ∧ of_ ≤ fr ∧ tt ≤ fr from ⟨htt, hdb, by omega, by omega⟩)
        clear hsr hcut hdd htt cA cB hw2 hdb hfl hln
        cases E
        · have hm : ¬ Mine s of_ D.b fi := fun h => by
            have := h.2.2.1
            rw [HX.out.2.1, ← HX.out.1] at this
            exact of_decide_eq_false hE this
          have HM := veil hm
          clear hm hE
          go_quiet (first | (go_at_call 126; exact Calls.quiet_of_same (EQ.out _ rfl)))
          go_wp2_with fail
          have Q3 := Q24.out.below (below_drewN (Below.refl _ W4) nq) Q24.out.lt
          refine bodyPost_ret (result_two rfl _ _ (w.heap.size + 1) 77 _ ((Q3.set 0 _).set 1 _) 2 _ _ rfl rfl Tryz.underlying77 (by kernel_rfl) rfl) rfl ⟨⟨(0, 0), by rw [decide_eq_false HM.out]; rfl, fun h => absurd h HM.out⟩, ?_⟩
          have hle : w.heap.size ≤ w.heap.size + 1 := Nat.le_succ _
          exact ((HB4.out.trans ((below_drewN (Below.refl _ W4) nq).mono HB4.out.size)).setCell (p := ⟨w.heap.size + 1, 0, none⟩) hle _).setCell (p := ⟨w.heap.size + 1, 1, none⟩) hle _
        · have HE := veil (of_decide_eq_true hE)
          clear hE
          go_quiet (first | (go_at_call 126; exact Calls.quiet_of_same (EQ.out _ rfl)))
          have k5 := QF4.out.cell 5
          clear k2 k6 c3 s1 i1 i2 EQ
          cases fi
          · have hm : Mine s of_ D.b false := ⟨by rw [HFR.out]; exact HX.out.2.2.1, by rw [HFR.out, HX.out.2.1]; have := HX.out; omega, by rw [HX.out.2.1, ← HX.out.1]; exact HE.out, fun h => by cases h⟩
            have HM := veil hm
            have NN := N4.out
            clear hm
            go_wp2_with fail
            have Q3 := Q24.out.below (below_drewN (Below.refl _ W4) nq) Q24.out.lt
            refine bodyPost_ret (result_two rfl _ _ (w.heap.size + 1) 77 _ ((Q3.set 0 _).set 1 _) 2 _ _ rfl rfl Tryz.underlying77 (by kernel_rfl) rfl) rfl ⟨⟨(of_, tt), by rw [decide_eq_true HM.out]; rfl, fun _ => by rw [HX.out.1]; rfl⟩, ?_⟩
            have hle : w.heap.size ≤ w.heap.size + 1 := Nat.le_succ _
            exact ((HB4.out.trans ((below_drewN (Below.refl _ W4) nq).mono HB4.out.size)).setCell (p := ⟨w.heap.size + 1, 0, none⟩) hle _).setCell (p := ⟨w.heap.size + 1, 1, none⟩) hle _
          · obtain ⟨t1, ht1⟩ : ∃ t1, tt + 1 = t1 := ⟨_, rfl⟩
            have w1' : IntKind.u64.wrap ((tt : Int) + 1) = (t1 : Int) := by rw [IntKind.wrap_u64]; have := HX.out; have := HL.out; omega
            have HT1 := veil ht1
            have nf1 := N4.out.frozen 1
            have HBq := HB4.out.trans ((below_drewN (Below.refl _ W4) nq).mono HB4.out.size)
            have NN := (N4.out.below (below_drewN (Below.refl _ W4) nq) N4.out.lt).set 1 (.int .u64 (t1 : Int))
            have hN1 : w.heap.size ≤ N := by have := HNN.out; omega
            have B5 := HBq.setCell (p := ⟨N, 1, none⟩) hN1 (.int .u64 (t1 : Int))
            have Q5 : Row ((W4.drewN nq).setCell ⟨N, 1, none⟩ (.int .u64 (t1 : Int))) (w.heap.size + 1) 77 #[.int .u64 0, .int .u64 0] := (Below.heap_setCell _ _ _ _ (by have := HNN.out; show w.heap.size + 1 ≠ N; omega)).trans (Q24.out.below (below_drewN (Below.refl _ W4) nq) Q24.out.lt)
            have O5 : SnOk ((W4.drewN nq).setCell ⟨N, 1, none⟩ (.int .u64 (t1 : Int))) g wr cm ls s C L := (OK4.out.below (below_drewN (Below.refl _ W4) nq)).same (fun k e => Below.heap_setCell _ _ _ _ (by have := HNN.out; have := HOWN.out k e; show k ≠ N; omega))
            have B5 := veil B5
            have NN := veil NN
            have Q5 := veil Q5
            have O5 := veil O5
            clear hN1 HBq ht1 OK4 FO4 Q24
            go_wp2_with fail
            generalize (W4.drewN nq).setCell ⟨N, 1, none⟩ (.int .u64 (t1 : Int)) = w5 at *
            obtain ⟨n1, hn1⟩ : ∃ n1, s.b.length + 1 = n1 := ⟨_, rfl⟩
            obtain ⟨n0, hn0⟩ : ∃ n0, s.b.length = n0 := ⟨_, rfl⟩
            obtain ⟨m, hm⟩ : ∃ m, sn s = m := ⟨_, rfl⟩
            have B8 := veil (B5.out.trans ((below_drewN (Below.refl _ w5) 1).mono B5.out.size) : Below w.heap.size w w5.drew)
            have N8 := veil (NN.out.below (below_drewN (Below.refl _ w5) 1) NN.out.lt : Row w5.drew _ _ _)
            have Q8 := veil (Q5.out.below (below_drewN (Below.refl _ w5) 1) Q5.out.lt : Row w5.drew _ _ _)
            have O8 := veil (O5.out.below (below_drewN (Below.refl _ w5) 1) : SnOk w5.drew _ _ _ _ _ _ _)
            have OW := veil (show ∀ W, KeepP (fun k => k = w.heap.size + 1) w5.drew W → SnOk W g wr cm ls s C L from fun W hk => O8.out.same (fun k e => hk.block k (O8.out.lt k e) (by have := HOWN.out k e; show ¬ k = w.heap.size + 1; omega)))
            have FE := veil (show ∀ W, KeepP (fun k => k = w.heap.size + 1) w5.drew W → Calls Tryz.prog 33 #[.pointer (some ⟨g, 0, none⟩)] W (fun e w' => e = .returned (.agg #[.int .u64 (n0 : Int), .int .u64 (n1 : Int)]) ∧ Below W.heap.size W w') from fun W hk => by
              have := end_any (OW.out W hk)
              unfold rcA at this
              rw [hn1, hn0] at this
              exact this)
            have C8 := veil (show ∀ W, KeepP (fun k => k = w.heap.size + 1) w5.drew W → W.cell? ⟨g, 5, none⟩ = some (.int .u64 (m : Int)) from fun W hk => by
              have := (OW.out W hk).row.cell 5
              unfold snC at this
              rw [hm] at this
              exact this)
            have N9 := veil (show ∀ W, KeepP (fun k => k = w.heap.size + 1) w5.drew W → Row W N 77 #[.int .u64 (of_ : Int), .int .u64 (t1 : Int)] from fun W hk => hk.row N8.out (by have := HNN.out; show ¬ N = w.heap.size + 1; omega))
            have HS := veil (show s.b.length = n0 ∧ s.b.length + 1 = n1 ∧ sn s = m from ⟨hn0, hn1, hm⟩)
            clear hn0 hn1 hm w1' nf1 m0 m1 r0 r1 f0 f1 k5
            obtain ⟨D1, hD1⟩ : ∃ D1, decide (t1 = n1) = D1 := ⟨_, rfl⟩
            obtain ⟨D2, hD2⟩ : ∃ D2, decide (t1 = m) = D2 := ⟨_, rfl⟩
            have HD1 := veil hD1
            have HD2 := veil hD2
            clear hD1 hD2
            cases D1
            · refine (wpIn_wide (n := 4)).1 ?_
              refine wpIn_region_any (by kernel_rfl) ?_
              refine anyIn_spine3 (valO9 N g of_ t1 n0 n1) (fun _ _ => True) (RO8 w5.drew (w.heap.size + 1) of_ t1) undef [16] [81, 82, 83, 84, 85, 86, 87, 88, 89, 90, 91, 92, 93, 94, 95, 96, 100000, 5] depO9 dclO9 (by kernel_rfl) (by decide) rfl (by decide) (by decide) ?ord (by decide) ?h0 ?fix ?cal ?don
              case ord =>
                intro k i j h1 h2
                simp at h2
              case fix =>
                intro x W4 m2 ii d u hR hdi hni hdep hlo hhi
                match ii, hdi, hni, hdep with
                | 0, hdi, _, _ =>
                  obtain rfl := Option.some.inj hdi
                  with_reducible refine OI_value2 ?_ ?_ ?_ ?_ (.agg #[.int .u64 (of_ : Int), .int .u64 (t1 : Int)]) W4 ?_ ?_
                  · decide
                  · kernel_rfl
                  · exact (about_none (by intro c h; cases h))
                  · intro c h; cases h
                  · exact (lgRun_row 77 _ rfl N (by kernel_rfl) 77 #[.int .u64 (of_ : Int), .int .u64 (t1 : Int)] 2 _ Tryz.underlying77 (by kernel_rfl) rfl W4 (N9.out W4 hR.keep))
                  · exact ⟨rfl, hR⟩
                | 1, hdi, _, _ =>
                  obtain rfl := Option.some.inj hdi
                  with_reducible refine OI_value2 ?_ ?_ ?_ ?_ (.pointer (some ⟨N, 1, none⟩)) W4 ?_ ?_
                  · decide
                  · kernel_rfl
                  · exact (about_none (by intro c h; cases h))
                  · intro c h; cases h
                  · kernel_rfl
                  · exact ⟨rfl, hR⟩
                | 2, hdi, _, hdep =>
                  obtain rfl := Option.some.inj hdi
                  rw [updV_self (show x 1 = _ from hdep 1 (by simp [depO9]) (by decide))]
                  with_reducible refine OI_value2 ?_ ?_ ?_ ?_ (.int .u64 (t1 : Int)) W4 ?_ ?_
                  · decide
                  · kernel_rfl
                  · exact (about_none (by intro c h; cases h))
                  · intro c h; cases h
                  · exact (lgRun_cell 22 _ ⟨N, 1, none⟩ _ _ rfl (by kernel_rfl) Tryz.underlying22 rfl _ ((N9.out W4 hR.keep).cell 1))
                  · exact ⟨rfl, hR⟩
                | 3, hdi, _, _ =>
                  obtain rfl := Option.some.inj hdi
                  with_reducible refine OI_value2 ?_ ?_ ?_ ?_ (.pointer (some ⟨g, 0, none⟩)) W4 ?_ ?_
                  · decide
                  · kernel_rfl
                  · exact (about_none (by intro c h; cases h))
                  · intro c h; cases h
                  · kernel_rfl
                  · exact ⟨rfl, hR⟩
                | 4, hdi, _, hdep =>
                  obtain rfl := Option.some.inj hdi
                  rw [updV_self (show x 3 = _ from hdep 3 (by simp [depO9]) (by decide))]
                  with_reducible refine OI_call2 ?_ ?_ ?_ 33 #[.pointer (some ⟨g, 0, none⟩)] ?_ ?_ ?_ ?_
                  · decide
                  · kernel_rfl
                  · intro c h; cases h
                  · exact fun _ _ => trivial
                  · kernel_rfl
                  · decide
                  · refine (callsIn_wide.2 (FE.out W4 hR.keep)).mono ?_
                    rintro e w' ⟨rfl, hb⟩
                    exact ⟨_, rfl, rfl, hR.below hb⟩
                | 5, hdi, _, hdep =>
                  obtain rfl := Option.some.inj hdi
                  rw [updV_self (show x 4 = _ from hdep 4 (by simp [depO9]) (by decide))]
                  with_reducible refine OI_value2 ?_ ?_ ?_ ?_ (.int .u64 (n1 : Int)) W4 ?_ ?_
                  · decide
                  · kernel_rfl
                  · exact (about_none (by intro c h; cases h))
                  · intro c h; cases h
                  · kernel_rfl
                  · exact ⟨rfl, hR⟩
                | 6, hdi, _, hdep =>
                  obtain rfl := Option.some.inj hdi
                  rw [updV_self (show x 2 = _ from hdep 2 (by simp [depO9]) (by decide)), updV_self (show (updV x 2 _) 5 = _ from hdep 5 (by simp [depO9]) (by decide))]
                  with_reducible refine OI_value2 ?_ ?_ ?_ ?_ (.bool false) W4 ?_ ?_
                  · decide
                  · kernel_rfl
                  · exact (about_none (by intro c h; cases h))
                  · intro c h; cases h
                  · exact (run_eqlB _ _ _ _ t1 n1 _ rfl (by kernel_rfl) (by kernel_rfl) HD1.out _)
                  · exact ⟨rfl, hR⟩
                | 7, hdi, _, hdep =>
                  obtain rfl := Option.some.inj hdi
                  rw [updV_self (show x 6 = _ from hdep 6 (by simp [depO9]) (by decide))]
                  with_reducible refine OI_value2 ?_ ?_ ?_ ?_ (.bool false) W4 ?_ ?_
                  · decide
                  · kernel_rfl
                  · exact (about_none (by intro c h; cases h))
                  · intro c h; cases h
                  · kernel_rfl
                  · exact ⟨rfl, hR⟩
                | 8, hdi, _, hdep =>
                  obtain rfl := Option.some.inj hdi
                  rw [updV_self (show x 7 = _ from hdep 7 (by simp [depO9]) (by decide))]
                  with_reducible refine OI_off2 ?_ ?_ ?_ ?_
                  · decide
                  · kernel_rfl
                  · exact fun _ _ => trivial
                  · exact ⟨rfl, hR⟩
                | 9, hdi, _, hdep =>
                  obtain rfl := Option.some.inj hdi
                  rw [updV_self (show x 8 = _ from hdep 8 (by simp [depO9]) (by decide)), updV_self (show (updV x 8 _) 7 = _ from hdep 7 (by simp [depO9]) (by decide))]
                  with_reducible refine OI_off2 ?_ ?_ ?_ ?_
                  · decide
                  · kernel_rfl
                  · exact fun _ _ => trivial
                  · exact ⟨rfl, hR⟩
                | 10, hdi, _, hdep =>
                  obtain rfl := Option.some.inj hdi
                  rw [updV_self (show x 7 = _ from hdep 7 (by simp [depO9]) (by decide))]
                  with_reducible refine OI_off2 ?_ ?_ ?_ ?_
                  · decide
                  · kernel_rfl
                  · exact fun _ _ => trivial
                  · exact ⟨rfl, hR⟩
                | 11, hdi, _, hdep =>
                  obtain rfl := Option.some.inj hdi
                  rw [updV_self (show x 10 = _ from hdep 10 (by simp [depO9]) (by decide)), updV_self (show (updV x 10 _) 7 = _ from hdep 7 (by simp [depO9]) (by decide))]
                  with_reducible refine OI_off2 ?_ ?_ ?_ ?_
                  · decide
                  · kernel_rfl
                  · exact fun _ _ => trivial
                  · exact ⟨rfl, hR⟩
                | 12, hdi, _, hdep =>
                  obtain rfl := Option.some.inj hdi
                  rw [updV_self (show x 11 = _ from hdep 11 (by simp [depO9]) (by decide)), updV_self (show (updV x 11 _) 7 = _ from hdep 7 (by simp [depO9]) (by decide))]
                  with_reducible refine OI_off2 ?_ ?_ ?_ ?_
                  · decide
                  · kernel_rfl
                  · exact fun _ _ => trivial
                  · exact ⟨rfl, hR⟩
                | 13, hdi, _, hdep =>
                  obtain rfl := Option.some.inj hdi
                  rw [updV_self (show x 12 = _ from hdep 12 (by simp [depO9]) (by decide)), updV_self (show (updV x 12 _) 7 = _ from hdep 7 (by simp [depO9]) (by decide))]
                  with_reducible refine OI_off2 ?_ ?_ ?_ ?_
                  · decide
                  · kernel_rfl
                  · exact fun _ _ => trivial
                  · exact ⟨rfl, hR⟩
                | 14, hdi, _, hdep =>
                  obtain rfl := Option.some.inj hdi
                  rw [updV_self (show x 9 = _ from hdep 9 (by simp [depO9]) (by decide)), updV_self (show (updV x 9 _) 13 = _ from hdep 13 (by simp [depO9]) (by decide)), updV_self (show (updV (updV x 9 _) 13 _) 7 = _ from hdep 7 (by simp [depO9]) (by decide))]
                  with_reducible refine OI_off2 ?_ ?_ ?_ ?_
                  · decide
                  · kernel_rfl
                  · exact fun _ _ => trivial
                  · exact ⟨rfl, hR⟩
                | 15, hdi, _, hdep =>
                  obtain rfl := Option.some.inj hdi
                  rw [updV_self (show x 7 = _ from hdep 7 (by simp [depO9]) (by decide)), updV_self (show (updV x 7 _) 14 = _ from hdep 14 (by simp [depO9]) (by decide))]
                  with_reducible refine OI_value2 ?_ ?_ ?_ ?_ (.bool false) W4 ?_ ?_
                  · decide
                  · kernel_rfl
                  · exact (about_none (by intro c h; cases h))
                  · intro c h; cases h
                  · kernel_rfl
                  · exact ⟨rfl, hR⟩
                | 16, _, hni, _ => (exfalso; exact hni (by decide))
                | 17, hdi, _, hdep =>
                  obtain rfl := Option.some.inj hdi
                  rw [updV_self (show x 15 = _ from hdep 15 (by simp [depO9]) (by decide))]
                  with_reducible refine OI_value2 ?_ ?_ ?_ ?_ (.bool false) W4 ?_ ?_
                  · decide
                  · kernel_rfl
                  · exact (about_none (by intro c h; cases h))
                  · intro c h; cases h
                  · kernel_rfl
                  · exact ⟨rfl, hR⟩
                | _ + 18, hdi, _, _ => simp at hdi
              case cal =>
                intro x W4 k2 ii d u hR hk hdi hdep hu0 hup hK
                match k2, hk, hR, hu0, hup with
                | 0, hk, hR, hu0, hup =>
                  obtain rfl := Option.some.inj hk
                  obtain rfl := Option.some.inj hdi
                  rw [updV_self (show x 0 = _ from hdep 0 (by simp [depO9]) (by decide))]
                  exact OI_skip rfl rfl (about_none (by intro c h; cases h)) (by intro c h; cases h) _ (run_store_row 77 _ _ rfl (w.heap.size + 1) #[.int .u64 (of_ : Int), .int .u64 (t1 : Int)] (by kernel_rfl) (by kernel_rfl) 77 _ hR.2 2 (by kernel_rfl) rfl rfl (by simp [Value.oneCell'])) ⟨undef, (lgPut_none _ _).trans (put_far _ _ _ (by rw [puts_size]; exact Nat.le_of_ble_eq_true rfl)).symm, ⟨hR.1.trans (KeepP.setRow (st := fun k => k = w.heap.size + 1) rfl _ _), hR.2.put _⟩, trivial⟩
                | _ + 1, hk, _, _, _ => simp at hk
              case h0 => exact ⟨KeepP.refl _ _, Q8.out⟩
              case don =>
                intro x W9 u hR hfx _ _
                have hR : KeepP (fun k => k = w.heap.size + 1) w5.drew W9 ∧ Row W9 (w.heap.size + 1) 77 #[.int .u64 (of_ : Int), .int .u64 (t1 : Int)] := hR
                simp only [putsV, Act.put, List.setIfInBounds_toArray, List.set_cons_succ, List.set_cons_zero, List.set_nil, Nat.reduceAdd]
                rw [show x 17 = .bool false from hfx 17 (by decide) (by decide)]
                generalize x 0 = z0, x 1 = z1, x 2 = z2, x 3 = z3, x 4 = z4, x 5 = z5, x 6 = z6, x 7 = z7, x 8 = z8, x 9 = z9, x 10 = z10, x 11 = z11, x 12 = z12, x 13 = z13, x 14 = z14, x 15 = z15, x 16 = z16
                have R9 := veil hR.2
                have B9 := veil (B8.out.trans (hR.1.below (fun k e => by show w.heap.size ≤ k; omega) B8.out.size))
                have HDM := veil (of_fin HX.out HE.out HFR.out HL.out HT1.out HS.out (O8.out.rep.fine) HD1.out HD2.out)
                clear hR hfx
                go_wp2_with fail
                refine bodyPost_ret (result_two rfl _ _ (w.heap.size + 1) 77 _ R9.out 2 _ _ rfl rfl Tryz.underlying77 (by kernel_rfl) rfl) rfl ⟨⟨(of_, t1), ?_, ?_⟩, B9.out⟩
                · rw [HDM.out]; rfl
                · intro _
                  rw [← HT1.out, HX.out.1]; rfl
            · refine (wpIn_wide (n := 4)).1 ?_
              refine wpIn_region_any (by kernel_rfl) ?_
              refine anyIn_spine3 (valO8 N g of_ t1 n0 n1 m D2) (fun _ _ => True) (RO8 w5.drew (w.heap.size + 1) of_ t1) undef [16] [81, 82, 83, 84, 85, 86, 87, 88, 89, 90, 91, 92, 93, 94, 95, 96, 100000, 5] depO8 dclO8 (by kernel_rfl) (by decide) rfl (by decide) (by decide) ?ord (by decide) ?h0 ?fix ?cal ?don
              case ord =>
                intro k i j h1 h2
                simp at h2
              case fix =>
                intro x W4 m2 ii d u hR hdi hni hdep hlo hhi
                match ii, hdi, hni, hdep with
                | 0, hdi, _, _ =>
                  obtain rfl := Option.some.inj hdi
                  with_reducible refine OI_value2 ?_ ?_ ?_ ?_ (.agg #[.int .u64 (of_ : Int), .int .u64 (t1 : Int)]) W4 ?_ ?_
                  · decide
                  · kernel_rfl
                  · exact (about_none (by intro c h; cases h))
                  · intro c h; cases h
                  · exact (lgRun_row 77 _ rfl N (by kernel_rfl) 77 #[.int .u64 (of_ : Int), .int .u64 (t1 : Int)] 2 _ Tryz.underlying77 (by kernel_rfl) rfl W4 (N9.out W4 hR.keep))
                  · exact ⟨rfl, hR⟩
                | 1, hdi, _, _ =>
                  obtain rfl := Option.some.inj hdi
                  with_reducible refine OI_value2 ?_ ?_ ?_ ?_ (.pointer (some ⟨N, 1, none⟩)) W4 ?_ ?_
                  · decide
                  · kernel_rfl
                  · exact (about_none (by intro c h; cases h))
                  · intro c h; cases h
                  · kernel_rfl
                  · exact ⟨rfl, hR⟩
                | 2, hdi, _, hdep =>
                  obtain rfl := Option.some.inj hdi
                  rw [updV_self (show x 1 = _ from hdep 1 (by simp [depO8]) (by decide))]
                  with_reducible refine OI_value2 ?_ ?_ ?_ ?_ (.int .u64 (t1 : Int)) W4 ?_ ?_
                  · decide
                  · kernel_rfl
                  · exact (about_none (by intro c h; cases h))
                  · intro c h; cases h
                  · exact (lgRun_cell 22 _ ⟨N, 1, none⟩ _ _ rfl (by kernel_rfl) Tryz.underlying22 rfl _ ((N9.out W4 hR.keep).cell 1))
                  · exact ⟨rfl, hR⟩
                | 3, hdi, _, _ =>
                  obtain rfl := Option.some.inj hdi
                  with_reducible refine OI_value2 ?_ ?_ ?_ ?_ (.pointer (some ⟨g, 0, none⟩)) W4 ?_ ?_
                  · decide
                  · kernel_rfl
                  · exact (about_none (by intro c h; cases h))
                  · intro c h; cases h
                  · kernel_rfl
                  · exact ⟨rfl, hR⟩
                | 4, hdi, _, hdep =>
                  obtain rfl := Option.some.inj hdi
                  rw [updV_self (show x 3 = _ from hdep 3 (by simp [depO8]) (by decide))]
                  with_reducible refine OI_call2 ?_ ?_ ?_ 33 #[.pointer (some ⟨g, 0, none⟩)] ?_ ?_ ?_ ?_
                  · decide
                  · kernel_rfl
                  · intro c h; cases h
                  · exact fun _ _ => trivial
                  · kernel_rfl
                  · decide
                  · refine (callsIn_wide.2 (FE.out W4 hR.keep)).mono ?_
                    rintro e w' ⟨rfl, hb⟩
                    exact ⟨_, rfl, rfl, hR.below hb⟩
                | 5, hdi, _, hdep =>
                  obtain rfl := Option.some.inj hdi
                  rw [updV_self (show x 4 = _ from hdep 4 (by simp [depO8]) (by decide))]
                  with_reducible refine OI_value2 ?_ ?_ ?_ ?_ (.int .u64 (n1 : Int)) W4 ?_ ?_
                  · decide
                  · kernel_rfl
                  · exact (about_none (by intro c h; cases h))
                  · intro c h; cases h
                  · kernel_rfl
                  · exact ⟨rfl, hR⟩
                | 6, hdi, _, hdep =>
                  obtain rfl := Option.some.inj hdi
                  rw [updV_self (show x 2 = _ from hdep 2 (by simp [depO8]) (by decide)), updV_self (show (updV x 2 _) 5 = _ from hdep 5 (by simp [depO8]) (by decide))]
                  with_reducible refine OI_value2 ?_ ?_ ?_ ?_ (.bool true) W4 ?_ ?_
                  · decide
                  · kernel_rfl
                  · exact (about_none (by intro c h; cases h))
                  · intro c h; cases h
                  · exact (run_eqlB _ _ _ _ t1 n1 _ rfl (by kernel_rfl) (by kernel_rfl) HD1.out _)
                  · exact ⟨rfl, hR⟩
                | 7, hdi, _, hdep =>
                  obtain rfl := Option.some.inj hdi
                  rw [updV_self (show x 6 = _ from hdep 6 (by simp [depO8]) (by decide))]
                  with_reducible refine OI_value2 ?_ ?_ ?_ ?_ (.bool true) W4 ?_ ?_
                  · decide
                  · kernel_rfl
                  · exact (about_none (by intro c h; cases h))
                  · intro c h; cases h
                  · kernel_rfl
                  · exact ⟨rfl, hR⟩
                | 8, hdi, _, hdep =>
                  obtain rfl := Option.some.inj hdi
                  rw [updV_self (show x 7 = _ from hdep 7 (by simp [depO8]) (by decide))]
                  with_reducible refine OI_value2 ?_ ?_ ?_ ?_ (.pointer (some ⟨N, 1, none⟩)) W4 ?_ ?_
                  · decide
                  · kernel_rfl
                  · exact (about_none (by intro c h; cases h))
                  · intro c h; cases h
                  · kernel_rfl
                  · exact ⟨rfl, hR⟩
                | 9, hdi, _, hdep =>
                  obtain rfl := Option.some.inj hdi
                  rw [updV_self (show x 8 = _ from hdep 8 (by simp [depO8]) (by decide)), updV_self (show (updV x 8 _) 7 = _ from hdep 7 (by simp [depO8]) (by decide))]
                  with_reducible refine OI_value2 ?_ ?_ ?_ ?_ (.int .u64 (t1 : Int)) W4 ?_ ?_
                  · decide
                  · kernel_rfl
                  · exact (about_none (by intro c h; cases h))
                  · intro c h; cases h
                  · exact (lgRun_cell 22 _ ⟨N, 1, none⟩ _ _ rfl (by kernel_rfl) Tryz.underlying22 rfl _ ((N9.out W4 hR.keep).cell 1))
                  · exact ⟨rfl, hR⟩
                | 10, hdi, _, hdep =>
                  obtain rfl := Option.some.inj hdi
                  rw [updV_self (show x 7 = _ from hdep 7 (by simp [depO8]) (by decide))]
                  with_reducible refine OI_value2 ?_ ?_ ?_ ?_ (.pointer (some ⟨g, 0, none⟩)) W4 ?_ ?_
                  · decide
                  · kernel_rfl
                  · exact (about_none (by intro c h; cases h))
                  · intro c h; cases h
                  · kernel_rfl
                  · exact ⟨rfl, hR⟩
                | 11, hdi, _, hdep =>
                  obtain rfl := Option.some.inj hdi
                  rw [updV_self (show x 10 = _ from hdep 10 (by simp [depO8]) (by decide)), updV_self (show (updV x 10 _) 7 = _ from hdep 7 (by simp [depO8]) (by decide))]
                  with_reducible refine OI_value2 ?_ ?_ ?_ ?_ (.pointer (some ⟨g, 0, none⟩)) W4 ?_ ?_
                  · decide
                  · kernel_rfl
                  · exact (about_none (by intro c h; cases h))
                  · intro c h; cases h
                  · kernel_rfl
                  · exact ⟨rfl, hR⟩
                | 12, hdi, _, hdep =>
                  obtain rfl := Option.some.inj hdi
                  rw [updV_self (show x 11 = _ from hdep 11 (by simp [depO8]) (by decide)), updV_self (show (updV x 11 _) 7 = _ from hdep 7 (by simp [depO8]) (by decide))]
                  with_reducible refine OI_value2 ?_ ?_ ?_ ?_ (.pointer (some ⟨g, 5, none⟩)) W4 ?_ ?_
                  · decide
                  · kernel_rfl
                  · exact (about_none (by intro c h; cases h))
                  · intro c h; cases h
                  · kernel_rfl
                  · exact ⟨rfl, hR⟩
                | 13, hdi, _, hdep =>
                  obtain rfl := Option.some.inj hdi
                  rw [updV_self (show x 12 = _ from hdep 12 (by simp [depO8]) (by decide)), updV_self (show (updV x 12 _) 7 = _ from hdep 7 (by simp [depO8]) (by decide))]
                  with_reducible refine OI_value2 ?_ ?_ ?_ ?_ (.int .u64 (m : Int)) W4 ?_ ?_
                  · decide
                  · kernel_rfl
                  · exact (about_none (by intro c h; cases h))
                  · intro c h; cases h
                  · exact (lgRun_cell 22 _ ⟨g, 5, none⟩ _ _ rfl (by kernel_rfl) Tryz.underlying22 rfl _ (C8.out W4 hR.keep))
                  · exact ⟨rfl, hR⟩
                | 14, hdi, _, hdep =>
                  obtain rfl := Option.some.inj hdi
                  rw [updV_self (show x 9 = _ from hdep 9 (by simp [depO8]) (by decide)), updV_self (show (updV x 9 _) 13 = _ from hdep 13 (by simp [depO8]) (by decide)), updV_self (show (updV (updV x 9 _) 13 _) 7 = _ from hdep 7 (by simp [depO8]) (by decide))]
                  with_reducible refine OI_value2 ?_ ?_ ?_ ?_ (.bool D2) W4 ?_ ?_
                  · decide
                  · kernel_rfl
                  · exact (about_none (by intro c h; cases h))
                  · intro c h; cases h
                  · exact (run_eqlB _ _ _ _ t1 m _ rfl (by kernel_rfl) (by kernel_rfl) HD2.out _)
                  · exact ⟨rfl, hR⟩
                | 15, hdi, _, hdep =>
                  obtain rfl := Option.some.inj hdi
                  rw [updV_self (show x 7 = _ from hdep 7 (by simp [depO8]) (by decide)), updV_self (show (updV x 7 _) 14 = _ from hdep 14 (by simp [depO8]) (by decide))]
                  with_reducible refine OI_value2 ?_ ?_ ?_ ?_ (.bool D2) W4 ?_ ?_
                  · decide
                  · kernel_rfl
                  · exact (about_none (by intro c h; cases h))
                  · intro c h; cases h
                  · kernel_rfl
                  · exact ⟨rfl, hR⟩
                | 16, _, hni, _ => (exfalso; exact hni (by decide))
                | 17, hdi, _, hdep =>
                  obtain rfl := Option.some.inj hdi
                  rw [updV_self (show x 15 = _ from hdep 15 (by simp [depO8]) (by decide))]
                  with_reducible refine OI_value2 ?_ ?_ ?_ ?_ (.bool D2) W4 ?_ ?_
                  · decide
                  · kernel_rfl
                  · exact (about_none (by intro c h; cases h))
                  · intro c h; cases h
                  · kernel_rfl
                  · exact ⟨rfl, hR⟩
                | _ + 18, hdi, _, _ => simp at hdi
              case cal =>
                intro x W4 k2 ii d u hR hk hdi hdep hu0 hup hK
                match k2, hk, hR, hu0, hup with
                | 0, hk, hR, hu0, hup =>
                  obtain rfl := Option.some.inj hk
                  obtain rfl := Option.some.inj hdi
                  rw [updV_self (show x 0 = _ from hdep 0 (by simp [depO8]) (by decide))]
                  exact OI_skip rfl rfl (about_none (by intro c h; cases h)) (by intro c h; cases h) _ (run_store_row 77 _ _ rfl (w.heap.size + 1) #[.int .u64 (of_ : Int), .int .u64 (t1 : Int)] (by kernel_rfl) (by kernel_rfl) 77 _ hR.2 2 (by kernel_rfl) rfl rfl (by simp [Value.oneCell'])) ⟨undef, (lgPut_none _ _).trans (put_far _ _ _ (by rw [puts_size]; exact Nat.le_of_ble_eq_true rfl)).symm, ⟨hR.1.trans (KeepP.setRow (st := fun k => k = w.heap.size + 1) rfl _ _), hR.2.put _⟩, trivial⟩
                | _ + 1, hk, _, _, _ => simp at hk
              case h0 => exact ⟨KeepP.refl _ _, Q8.out⟩
              case don =>
                intro x W9 u hR hfx _ _
                have hR : KeepP (fun k => k = w.heap.size + 1) w5.drew W9 ∧ Row W9 (w.heap.size + 1) 77 #[.int .u64 (of_ : Int), .int .u64 (t1 : Int)] := hR
                simp only [putsV, Act.put, List.setIfInBounds_toArray, List.set_cons_succ, List.set_cons_zero, List.set_nil, Nat.reduceAdd]
                rw [show x 17 = .bool D2 from hfx 17 (by decide) (by decide)]
                generalize x 0 = z0, x 1 = z1, x 2 = z2, x 3 = z3, x 4 = z4, x 5 = z5, x 6 = z6, x 7 = z7, x 8 = z8, x 9 = z9, x 10 = z10, x 11 = z11, x 12 = z12, x 13 = z13, x 14 = z14, x 15 = z15, x 16 = z16
                have R9 := veil hR.2
                have B9 := veil (B8.out.trans (hR.1.below (fun k e => by show w.heap.size ≤ k; omega) B8.out.size))
                have HDM := veil (of_fin HX.out HE.out HFR.out HL.out HT1.out HS.out (O8.out.rep.fine) HD1.out HD2.out)
                clear hR hfx
                go_wp2_with fail
                refine bodyPost_ret (result_two rfl _ _ (w.heap.size + 1) 77 _ R9.out 2 _ _ rfl rfl Tryz.underlying77 (by kernel_rfl) rfl) rfl ⟨⟨(of_, t1), ?_, ?_⟩, B9.out⟩
                · rw [HDM.out]; rfl
                · intro _
                  rw [← HT1.out, HX.out.1]; rfl
end Sr
end Go.Proofs.YtehadfidenejdaaGreatDoor
