/-
  Out of LgMem, LgTimes.
-/
import Derived.Test.YtohoieleakieeaaGeLgRow
import Derived.Test.YtohoieleakieeaaGe5
import Derived.Test.YtohoieleakieeaaGe7
import Derived.Lib.MinMax

/-! A ledger of the program in memory. -/
namespace Go.Proofs.Ytohoieleakieeaa
open Go Go.RowKit

/-- A ledger as the program has it. -/
structure ML where
  way : List Lg.Pk
  ask : Nat
  next : Nat
  asked : Nat
  now : Nat
  front : Nat
  lat : Nat
  smo : Nat
  var : Nat
  lea : Nat
  meas : Bool
  win : Nat
  shr : Bool
  thr : Nat
  mom : Nat
def pkC (p : Lg.Pk) : Array Value := #[.int .u64 (p.num : Int), .int .i64 (p.size : Int), .int .u64 (p.time : Int), .bool p.asks]
def vp (l : List Lg.Pk) : List Value := l.flatMap fun p => [.int .u64 (p.num : Int), .int .i64 (p.size : Int), .int .u64 (p.time : Int), .bool p.asks]
def tmC (lat smo var lea : Nat) : Array Value := #[.int .u64 (lat : Int), .int .u64 (smo : Int), .int .u64 (var : Int), .int .u64 (lea : Int)]
def mlC (v : Value) (m : ML) : Array Value :=
  #[v, .int .i64 (m.ask : Int), .int .u64 (m.next : Int), .int .u64 (m.asked : Int), .int .u64 (m.now : Int), .int .u64 (m.front : Int), .int .u64 (m.lat : Int), .int .u64 (m.smo : Int), .int .u64 (m.var : Int), .int .u64 (m.lea : Int), .bool m.meas, .int .i64 (m.win : Int), .bool m.shr, .int .i64 (m.thr : Int), .int .u64 (m.mom : Int)]

theorem vp_length (l : List Lg.Pk) : (vp l).length = l.length * 4 := by
  induction l with
  | nil => rfl
  | cons p l ih =>
    show (([_, _, _, _] : List Value) ++ vp l).length = _
    rw [List.length_append, ih, List.length_cons]
    simp only [List.length_cons, List.length_nil]
    omega
theorem vp_append (a b : List Lg.Pk) : vp (a ++ b) = vp a ++ vp b := by unfold vp; rw [List.flatMap_append]
theorem vp_one (l : List Lg.Pk) : ∀ u ∈ vp l, u.oneCell' = true := by
  intro u hu
  obtain ⟨r, _, h⟩ := List.mem_flatMap.1 hu
  simp only [List.mem_cons, List.not_mem_nil, or_false] at h
  rcases h with rfl | rfl | rfl | rfl <;> rfl
theorem vp_at : ∀ (l : List Lg.Pk) (j : Nat) (p : Lg.Pk), l[j]? = some p → ∀ q, q < 4 → (vp l)[j * 4 + q]? = (pkC p)[q]?
  | [], _, _, h, _, _ => by simp at h
  | r :: l, 0, p, h, q, hq => by
    simp at h
    subst h
    match q, hq with
    | 0, _ => rfl
    | 1, _ => rfl
    | 2, _ => rfl
    | 3, _ => rfl
  | r :: l, j + 1, p, h, q, hq => by
    have h2 := vp_at l j p (by simpa using h) q hq
    show (([_, _, _, _] : List Value) ++ vp l)[(j + 1) * 4 + q]? = _
    rw [List.getElem?_append_right (by simp only [List.length_cons, List.length_nil]; omega)]
    simp only [List.length_cons, List.length_nil]
    rw [show (j + 1) * 4 + q - (0 + 1 + 1 + 1 + 1) = j * 4 + q by omega]
    exact h2

structure LdOk (w : World) (g : Nat) (v : Value) (m : ML) : Prop where
  row : Row w g 51 (mlC v m)
  way : RowO w 55 4 v m.way.length (vp m.way)
theorem LdOk.lt {w : World} {g : Nat} {v : Value} {m : ML} (h : LdOk w g v m) : g < w.heap.size := h.row.lt
theorem LdOk.same {w w' : World} {g : Nat} {v : Value} {m : ML} (h : LdOk w g v m) (h1 : w'.heap[g]? = w.heap[g]?) (h2 : ∀ k, v.ownBlock = some k → w'.heap[k]? = w.heap[k]?) : LdOk w' g v m := ⟨h1.trans h.row, h.way.same h2⟩
theorem LdOk.below {w w' : World} {g : Nat} {v : Value} {m : ML} (h : LdOk w g v m) (hb : Below w.heap.size w w') : LdOk w' g v m := h.same (hb.block _ h.lt) (fun k hk => hb.block _ (h.way.lt k hk))
theorem LdOk.apart {w : World} {g : Nat} {v : Value} {m : ML} (h : LdOk w g v m) : v.ownBlock ≠ some g := by
  intro e
  rcases h.way.2 with ⟨rfl, _⟩ | ⟨b, o, cap, cur, rfl, hg, _⟩
  · cases e
  · injection e with e
    subst e
    have := (show w.heap[b]? = some _ from h.row).symm.trans hg
    injection this with this
    injection this with _ this
    exact absurd this (by decide)
structure LdCells (w : World) (g : Nat) (v : Value) (m : ML) : Prop where
  c0 : w.cell? ⟨g, 0, none⟩ = some v
  c1 : w.cell? ⟨g, 1, none⟩ = some (.int .i64 (m.ask : Int))
  c2 : w.cell? ⟨g, 2, none⟩ = some (.int .u64 (m.next : Int))
  c3 : w.cell? ⟨g, 3, none⟩ = some (.int .u64 (m.asked : Int))
  c4 : w.cell? ⟨g, 4, none⟩ = some (.int .u64 (m.now : Int))
  c5 : w.cell? ⟨g, 5, none⟩ = some (.int .u64 (m.front : Int))
  c6 : w.cell? ⟨g, 6, none⟩ = some (.int .u64 (m.lat : Int))
  c7 : w.cell? ⟨g, 7, none⟩ = some (.int .u64 (m.smo : Int))
  c8 : w.cell? ⟨g, 8, none⟩ = some (.int .u64 (m.var : Int))
  c9 : w.cell? ⟨g, 9, none⟩ = some (.int .u64 (m.lea : Int))
  c10 : w.cell? ⟨g, 10, none⟩ = some (.bool m.meas)
  c11 : w.cell? ⟨g, 11, none⟩ = some (.int .i64 (m.win : Int))
  c12 : w.cell? ⟨g, 12, none⟩ = some (.bool m.shr)
  c13 : w.cell? ⟨g, 13, none⟩ = some (.int .i64 (m.thr : Int))
  c14 : w.cell? ⟨g, 14, none⟩ = some (.int .u64 (m.mom : Int))
  f : ∀ k, w.frozen? ⟨g, k, none⟩ = false
theorem row_cells {w : World} {g : Nat} {v : Value} {m : ML} (h : Row w g 51 (mlC v m)) : LdCells w g v m :=
  ⟨h.cell 0, h.cell 1, h.cell 2, h.cell 3, h.cell 4, h.cell 5, h.cell 6, h.cell 7, h.cell 8, h.cell 9, h.cell 10, h.cell 11, h.cell 12, h.cell 13, h.cell 14, fun k => h.frozen k⟩
theorem LdOk.cells {w : World} {g : Nat} {v : Value} {m : ML} (h : LdOk w g v m) : LdCells w g v m := row_cells h.row
/-- What a machine's numbers hold. -/
structure Fits (m : ML) : Prop where
  next : m.next ≤ 4611686018427387904
  asked : m.asked ≤ 1099511627775
  now : m.now ≤ 1099511627775
  front : m.front ≤ 4611686018427387903
  lat : m.lat ≤ 1099511627775
  smo : m.smo ≤ 1099511627775
  var : m.var ≤ 1099511627775
  lea : m.lea ≤ 1099511627775
  winL : 2400 ≤ m.win
  winU : m.win + 1200 * m.way.length ≤ 3000000
  thr : m.thr ≤ 3000000
  mom : m.mom ≤ 1099511627775
  num : ∀ p ∈ m.way, p.num < m.next
  size : ∀ p ∈ m.way, 1 ≤ p.size ∧ p.size ≤ 1200
  time : ∀ p ∈ m.way, p.time ≤ m.now
  up : (m.way.map (·.num)).Pairwise (· < ·)
  ask : m.ask = ((m.way.filter (·.asks)).map (·.size)).sum
  len : m.way.length ≤ 2000
def newM15 : ML := ⟨[], 0, 0, 0, 0, 0, 0, 333, 166, 0, false, 12000, false, 0, 0⟩

set_option maxRecDepth 20000 in
theorem there_yes (g : Nat) (v : Value) (m : ML) (w : World) (h : Row w g 51 (mlC v m)) (hw : 0 < m.win) :
    Calls Try.prog 16 #[.pointer (some ⟨g, 0, none⟩)] w fun e w' => e = .returned (.bool true) ∧ w' = w := by
  have c := (row_cells h).c11
  have h0 : decide ((0 : Int) < (m.win : Int)) = true := by simp; omega
  have h0n : decide (0 < m.win) = true := by simp; omega
  clear h hw
  go_enter Try.func16, Try.ntmps16
  go_wp2
  go_ret
  exact ⟨rfl, rfl⟩
set_option maxRecDepth 20000 in
theorem there_nil (w : World) :
    Calls Try.prog 16 #[.pointer none] w fun e w' => e = .returned (.bool false) ∧ w' = w := by
  go_enter Try.func16, Try.ntmps16
  go_wp2
  go_ret
  exact ⟨rfl, rfl⟩
set_option maxRecDepth 20000 in
theorem mayBe_any (g : Nat) (v : Value) (m : ML) (t : Nat) (w : World) (h : Row w g 51 (mlC v m)) :
    Calls Try.prog 17 #[.pointer (some ⟨g, 0, none⟩), .int .u64 (t : Int)] w fun e w' => e = .returned (.bool (decide (m.now ≤ t) && decide (t ≤ 1099511627775))) ∧ w' = w := by
  have c := (row_cells h).c4
  clear h
  obtain ⟨b1, hb1⟩ : ∃ b, decide (m.now ≤ t) = b := ⟨_, rfl⟩
  obtain ⟨b2, hb2⟩ : ∃ b, decide (t ≤ 1099511627775) = b := ⟨_, rfl⟩
  have e1 : decide ((m.now : Int) ≤ (t : Int)) = b1 := by rw [← hb1]; simp
  have e2 : decide ((t : Int) ≤ 1099511627775) = b2 := by rw [← hb2]; congr 1; apply propext; omega
  rw [hb1, hb2]
  cases b1
  · go_enter Try.func17, Try.ntmps17
    go_wp2
    go_ret
    exact ⟨rfl, rfl⟩
  · go_enter Try.func17, Try.ntmps17
    go_wp2
    go_ret
    exact ⟨rfl, rfl⟩
set_option maxRecDepth 20000 in
theorem unmeasured_any (w : World) :
    Calls Try.prog 15 #[] w fun e w' => e = .returned (.agg (tmC 0 333 166 0)) ∧ Below w.heap.size w w' := by
  go_enter Try.func15, Try.ntmps15
  go_wp2
  refine bodyPost_ret (results_cell_row rfl _ _ w.heap.size 44 _ (0, 0) _ rfl (Row.new _ _ _) Try.underlying44 rfl (by kernel_rfl)) rfl ⟨rfl, ?_⟩
  exact (Below.refl w.heap.size w).alloc (Nat.le_refl _) _
end Go.Proofs.Ytohoieleakieeaa

/-! The times of a ledger: patience, wait, what is between two numbers, one more that is measured. -/
namespace Go.Proofs.Ytohoieleakieeaa
open Go Go.RowKit

def patN (lat smo : Nat) : Nat := max (9 * max smo lat / 8) 1
def waitN (smo var : Nat) : Nat := smo + max (4 * var) 1 + 25
theorem max_cast (a b : Nat) : max (a : Int) (b : Int) = ((max a b : Nat) : Int) := by omega
theorem min_cast (a b : Nat) : min (a : Int) (b : Int) = ((min a b : Nat) : Int) := by omega
set_option maxRecDepth 20000 in
theorem patience_any (lat smo var lea : Nat) (w : World) (h1 : lat ≤ 1099511627775) (h2 : smo ≤ 1099511627775) :
    Calls Try.prog 26 #[.agg (tmC lat smo var lea)] w fun e w' => e = .returned (.int .u64 (patN lat smo : Int)) ∧ Below w.heap.size w w' := by
  have r0 : Row (w.alloc (.cells (tmC lat smo var lea) 44)) w.heap.size 44 (tmC lat smo var lea) := Row.new _ _ _
  have B := veil ((Below.refl w.heap.size w).alloc (Nat.le_refl _) (.cells (tmC lat smo var lea) 44))
  have c0 : (w.alloc (.cells (tmC lat smo var lea) 44)).cell? ⟨w.heap.size, 0, none⟩ = some (.int .u64 (lat : Int)) := r0.cell 0
  have c1 : (w.alloc (.cells (tmC lat smo var lea) 44)).cell? ⟨w.heap.size, 1, none⟩ = some (.int .u64 (smo : Int)) := r0.cell 1
  clear r0
  obtain ⟨k, hk⟩ : ∃ k, max smo lat = k := ⟨_, rfl⟩
  obtain ⟨q, hq⟩ : ∃ q, 9 * k / 8 = q := ⟨_, rfl⟩
  obtain ⟨p, hp⟩ : ∃ p, max q 1 = p := ⟨_, rfl⟩
  have e1 : max (smo : Int) (lat : Int) = (k : Int) := by omega
  have e2 : IntKind.u64.wrap (9 * (k : Int)) = 9 * (k : Int) := by rw [IntKind.wrap_u64]; omega
  have e3 : Int.tdiv (9 * (k : Int)) 8 = (q : Int) := by rw [Int.tdiv_eq_ediv_of_nonneg (by omega)]; omega
  have e4 : max (q : Int) 1 = (p : Int) := by omega
  have e5 : IntKind.u64.wrap (q : Int) = (q : Int) := by rw [IntKind.wrap_u64]; omega
  have hP : patN lat smo = p := by unfold patN; rw [hk, hq, hp]
  rw [hP]
  clear hk hq hp hP h1 h2
  go_enter Try.func26, Try.ntmps26
  go_wp2
  go_ret
  exact ⟨rfl, B.out⟩
set_option maxRecDepth 20000 in
theorem wait_any (lat smo var lea : Nat) (w : World) (h1 : smo ≤ 1099511627775) (h2 : var ≤ 1099511627775) :
    Calls Try.prog 27 #[.agg (tmC lat smo var lea)] w fun e w' => e = .returned (.int .u64 (waitN smo var : Int)) ∧ Below w.heap.size w w' := by
  have r0 : Row (w.alloc (.cells (tmC lat smo var lea) 44)) w.heap.size 44 (tmC lat smo var lea) := Row.new _ _ _
  have B := veil ((Below.refl w.heap.size w).alloc (Nat.le_refl _) (.cells (tmC lat smo var lea) 44))
  have c1 : (w.alloc (.cells (tmC lat smo var lea) 44)).cell? ⟨w.heap.size, 1, none⟩ = some (.int .u64 (smo : Int)) := r0.cell 1
  have c2 : (w.alloc (.cells (tmC lat smo var lea) 44)).cell? ⟨w.heap.size, 2, none⟩ = some (.int .u64 (var : Int)) := r0.cell 2
  clear r0
  obtain ⟨p, hp⟩ : ∃ p, max (4 * var) 1 = p := ⟨_, rfl⟩
  obtain ⟨z, hz⟩ : ∃ z, waitN smo var = z := ⟨_, rfl⟩
  have hz' := hz
  unfold waitN at hz'
  rw [hp] at hz'
  have e2 : IntKind.u64.wrap (4 * (var : Int)) = 4 * (var : Int) := by rw [IntKind.wrap_u64]; omega
  have e4 : max (4 * (var : Int)) 1 = (p : Int) := by omega
  have e5 : IntKind.u64.wrap ((smo : Int) + (p : Int)) = (smo : Int) + (p : Int) := by rw [IntKind.wrap_u64]; omega
  have e6 : IntKind.u64.wrap ((smo : Int) + (p : Int) + 25) = (z : Int) := by rw [IntKind.wrap_u64]; omega
  rw [hz]
  clear hp hz hz' h1 h2
  go_enter Try.func27, Try.ntmps27
  go_wp2
  go_ret
  exact ⟨rfl, B.out⟩
set_option maxRecDepth 20000 in
theorem between_any (a b : Nat) (w : World) (h1 : a ≤ 1099511627775) (h2 : b ≤ 1099511627775) :
    Calls Try.prog 39 #[.int .u64 (a : Int), .int .u64 (b : Int)] w fun e w' => e = .returned (.int .u64 ((max a b - min a b : Nat) : Int)) ∧ w' = w := by
  obtain ⟨z, hz⟩ : ∃ z, max a b - min a b = z := ⟨_, rfl⟩
  have e6 : IntKind.u64.wrap (max (a : Int) (b : Int) - min (a : Int) (b : Int)) = (z : Int) := by rw [IntKind.wrap_u64]; omega
  rw [hz]
  clear hz h1 h2
  go_enter Try.func39, Try.ntmps39
  go_wp2
  go_ret
  exact ⟨rfl, rfl⟩
end Go.Proofs.Ytohoieleakieeaa
