/-
  Out of LgRow, LgMem, LgTimes.
-/
import Derived.Test.YtohoieleakieeaaGreatDoorGl1
import Derived.Maps.AppendAt
import Derived.ArgAppend
import Derived.Laws.OwnMore
import Derived.Deep.AppendLies
import Derived.Test.YtohoieleakieeaaGreatDoorGl5
import Derived.Test.YtohoieleakieeaaGreatDoorGl6
import Derived.Lib.MinMax

/-! A list in memory that may begin in the middle of its block, and may be shorter than it. No function of the program in sight. -/
namespace Go.Proofs.YtohoieleakieeaaGreatDoor
open Go Go.RowKit

def RowO (w : World) (e : TypeId) (size : Nat) (v : Value) (n : Nat) (xs : List Value) : Prop :=
  xs.length = n * size ∧
  ((v = .slice none 0 0 ∧ n = 0) ∨
   ∃ g o cap cur, v = .slice (some ⟨g, o, none⟩) n cap ∧ w.heap[g]? = some (.cells cur e (0, 0)) ∧ n ≤ cap ∧ cap ≤ maxLen ∧ o + cap * size ≤ cur.size ∧ (cur.toList.drop o).take (n * size) = xs)
section
variable {w w' : World} {e : TypeId} {size : Nat} {v : Value} {n : Nat} {xs : List Value}
theorem RowO.nil (w : World) (e : TypeId) (size : Nat) : RowO w e size (.slice none 0 0) 0 [] := ⟨by simp, .inl ⟨rfl, rfl⟩⟩
theorem RowO.of_own {base : Nat} (h : w.ownsRow base e size v n xs) : RowO w e size v n xs := by
  refine ⟨h.1, ?_⟩
  rcases h.2 with h2 | ⟨g, cap, cur, h1, h2, h3, h4, h5, h6, h7⟩
  · exact .inl h2
  · exact .inr ⟨g, 0, cap, cur, h1, h3, h4, h5, by rw [h6]; omega, by rw [List.drop_zero]; exact h7⟩
theorem RowO.lt (h : RowO w e size v n xs) : ∀ k, v.ownBlock = some k → k < w.heap.size := by
  intro k hk
  rcases h.2 with ⟨rfl, _⟩ | ⟨g, o, cap, cur, rfl, hg, _⟩
  · simp [Value.ownBlock] at hk
  · simp [Value.ownBlock] at hk
    subst hk
    exact (Array.getElem?_eq_some_iff.1 hg).1
theorem RowO.same (h : RowO w e size v n xs) (hk : ∀ k, v.ownBlock = some k → w'.heap[k]? = w.heap[k]?) : RowO w' e size v n xs := by
  refine ⟨h.1, ?_⟩
  rcases h.2 with hn | ⟨g, o, cap, cur, rfl, hg, rest⟩
  · exact .inl hn
  · exact .inr ⟨g, o, cap, cur, rfl, (hk g rfl).trans hg, rest⟩
theorem RowO.below (h : RowO w e size v n xs) (hb : Below w.heap.size w w') : RowO w' e size v n xs := h.same (fun k hk => hb.block k (h.lt k hk))
theorem RowO.shape (h : RowO w e size v n xs) : ∃ a cap, v = .slice a n cap ∧ n ≤ cap ∧ cap ≤ maxLen := by
  rcases h.2 with ⟨rfl, rfl⟩ | ⟨g, o, cap, cur, rfl, _, h1, h2, _⟩
  · exact ⟨none, 0, rfl, Nat.le_refl _, by decide⟩
  · exact ⟨_, cap, rfl, h1, h2⟩
theorem RowO.cells {a : Option Addr} {cap : Nat} (h : RowO w e size (.slice a n cap) n xs) : ∀ j u, xs[j]? = some u → ∃ g o, a = some ⟨g, o, none⟩ ∧ w.cell? ⟨g, o + j, none⟩ = some u := by
  intro j u hu
  rcases h.2 with ⟨_, rfl⟩ | ⟨g, o, cap', cur, h', hg, _, _, _, htake⟩
  · have := h.1
    simp at this
    subst this
    simp at hu
  · injection h' with e1 e2 e3
    refine ⟨g, o, e1, ?_⟩
    rw [cell_of_row w g (o + j) cur e (0, 0) hg]
    rw [← htake, List.getElem?_take] at hu
    split at hu
    · rw [List.getElem?_drop] at hu
      simpa using hu
    · cases hu
end
theorem run_append_roomO {P : Program} (w : World) (t ty e tb : TypeId) (i : TypeInfo) (ht : P.underlying t = some (.slice e)) (hi : P.info? e = some i)
    (g o n cap : Nat) (cur : Array Value) (hg : w.heap[g]? = some (.cells cur tb (0, 0)))
    (a : Addr) (m c : Nat) (news : List Value) (hl : news.length = m * i.size) (hnews : ∀ j u, news[j]? = some u → w.cell? (a.add j) = some u) (h1 : ∀ u ∈ news, u.oneCell' = true)
    (hroom : n + m ≤ cap) (hfit : o + n * i.size + news.length ≤ cur.size) :
    (Builtin.append_ #[t, t] ty #[.slice (some ⟨g, o, none⟩) n cap, .slice (some a) m c]).run P w =
      .ok (.slice (some ⟨g, o, none⟩) (n + m) cap) (w.setRow g (cur.toList.take (o + n * i.size) ++ news ++ cur.toList.drop (o + n * i.size + news.length)).toArray) := by
  have h2 := run_firstCells_some (P := P) w i.size m a m c news hl hnews
  have h3 := run_storeCells_at P g (o + n * i.size) tb news 0 cur w hg (by simpa using hfit) h1
  rw [Nat.add_zero] at h3
  have h4 : (⟨g, o, none⟩ : Addr).add (n * i.size) = ⟨g, o + n * i.size, none⟩ := Addr.add_mid _ _ _
  simp [Builtin.append_, run_underlying ht, sizeOf, typeInfo, hi, Builtin.lenOf, hroom, h2, h4, h3]
/-- What is appended: into the old row, or into a new one. -/
theorem run_append_O {P : Program} (w : World) (t ty e : TypeId) (i : TypeInfo) (z : Value) (size bytes : Nat) (ht : P.underlying t = some (.slice e)) (hi : P.info? e = some i) (hz : i.zero = some z)
    (hsize : i.size = size) (hby : i.bytes = bytes) (hzs : z.cells.size = size) (hsz : 0 < size)
    (v : Value) (n : Nat) (xs : List Value) (hown : RowO w e size v n xs)
    (a : Addr) (m c : Nat) (news : List Value) (hl : news.length = m * size) (hnews : ∀ j u, news[j]? = some u → w.cell? (a.add j) = some u) (h1 : ∀ u ∈ news, u.oneCell' = true)
    (h63 : n + m ≤ maxLen) (hbytes : (n + m) * bytes ≤ 140737488355328) :
    ∃ v' w', (Builtin.append_ #[t, t] ty #[v, .slice (some a) m c]).run P w = .ok v' w' ∧ RowO w' e size v' (n + m) (xs ++ news) ∧
      (v'.ownBlock = v.ownBlock ∧ v.ownBlock ≠ none ∧ w.grownBy w' v.ownBlock ∨ w.grownBy w' none ∧ (∀ k, v'.ownBlock = some k → k = w.heap.size)) := by
  have hlen : (xs ++ news).length = (n + m) * size := by rw [List.length_append, hown.1, hl, Nat.add_mul]
  rcases hown.2 with ⟨rfl, rfl⟩ | ⟨g0, o, cap0, cur, rfl, hg, hnc, hcm, hcs, htake⟩
  · have hx : xs = [] := List.eq_nil_of_length_eq_zero (by simpa using hown.1)
    subst hx
    obtain ⟨v', w', hr, h2, h3, _, h5⟩ := run_append_own_at (P := P) w w.heap.size t ty e i z size bytes ht hi hz hsize hby hzs hsz (.slice none 0 0) 0 [] (World.ownsRow_nil _ _ _ _) a m c news hl hnews h1 h63 hbytes (Nat.le_refl _)
    refine ⟨v', w', hr, .of_own h2, .inr ⟨h3, fun k hk => ?_⟩⟩
    rcases h5 with h5 | h5
    · rw [h5] at hk; cases hk
    · rw [h5] at hk; injection hk with hk; exact hk.symm
  · have hxl := hown.1
    by_cases hroom : n + m ≤ cap0
    · subst hsize
      have hfit : o + n * i.size + news.length ≤ cur.size := by
        rw [hl, Nat.add_assoc, ← Nat.add_mul]
        exact Nat.le_trans (Nat.add_le_add_left (Nat.mul_le_mul_right _ hroom) _) hcs
      have hr := run_append_roomO (P := P) w t ty e e i ht hi g0 o n cap0 cur hg a m c news hl hnews h1 hroom hfit
      refine ⟨_, _, hr, ⟨hlen, .inr ⟨g0, o, cap0, _, rfl, setRow_heap w g0 cur _ e _ hg, hroom, hcm, ?_, ?_⟩⟩, .inl ⟨rfl, by simp [Value.ownBlock], ⟨rfl, rfl, rfl, by simp, fun k _ hk => setRow_other w g0 k _ (fun e => hk (by simp [e, Value.ownBlock]))⟩⟩⟩
      · simp only [List.size_toArray, List.length_append, List.length_take, List.length_drop, Array.length_toList]
        omega
      · have e1 : cur.toList.take (o + n * i.size) = cur.toList.take o ++ xs := by rw [← htake, List.take_add]
        have e2 : (cur.toList.take o).length = o := by rw [List.length_take, Array.length_toList]; omega
        rw [e1, List.append_assoc, List.append_assoc]
        show ((List.take o cur.toList ++ (xs ++ (news ++ List.drop (o + n * i.size + news.length) cur.toList))).drop o).take _ = _
        rw [List.drop_left' e2, ← List.append_assoc, ← hlen]
        exact List.take_left
    · have holds : ∀ j u, xs[j]? = some u → w.cell? ((⟨g0, o, none⟩ : Addr).add j) = some u := by
        intro j u hu
        obtain ⟨g, o', e1, e2⟩ := RowO.cells (cap := cap0) hown j u hu
        injection e1 with e1
        injection e1 with e1 e3
        subst e1 e3
        rw [Addr.add_mid]
        exact e2
      have hr := run_append_grow (P := P) w t ty e i z ht hi hz ⟨g0, o, none⟩ n cap0 xs (by rw [hsize]; exact hown.1) holds a m c news (by rw [hsize]; exact hl) hnews (by omega) (by simp only [maxLen] at h63; omega) (growslice_fits (by omega) (by rw [hby]; exact hbytes))
      obtain ⟨v2, w2, hr2, h6, h7⟩ := run_append_arg_grows (P := P) w t ty e i z size bytes ht hi hz hsize hby hzs hsz ⟨g0, o, none⟩ n cap0 xs hown.1 holds a m c news hl hnews (by omega) h63 hbytes
      refine ⟨v2, w2, hr2, .of_own h6, .inr ⟨h7, fun k hk => ?_⟩⟩
      rw [hr] at hr2
      injection hr2 with e1 e2
      rw [← e1] at hk
      injection hk with hk
      exact hk.symm
end Go.Proofs.YtohoieleakieeaaGreatDoor

/-! A ledger of the program in memory. -/
namespace Go.Proofs.YtohoieleakieeaaGreatDoor
open Go Go.RowKit

/-- A ledger as the program has it. -/
structure ML where
  way : List Lg.Pk
  ask : Nat
  next : Nat
  asked : Nat
  now : Nat
  front : Nat
  lat : Nat
  smo : Nat
  var : Nat
  lea : Nat
  meas : Bool
  win : Nat
  shr : Bool
  thr : Nat
  mom : Nat
def pkC (p : Lg.Pk) : Array Value := #[.int .u64 (p.num : Int), .int .i64 (p.size : Int), .int .u64 (p.time : Int), .bool p.asks]
def vp (l : List Lg.Pk) : List Value := l.flatMap fun p => [.int .u64 (p.num : Int), .int .i64 (p.size : Int), .int .u64 (p.time : Int), .bool p.asks]
def tmC (lat smo var lea : Nat) : Array Value := #[.int .u64 (lat : Int), .int .u64 (smo : Int), .int .u64 (var : Int), .int .u64 (lea : Int)]
def mlC (v : Value) (m : ML) : Array Value :=
  #[v, .int .i64 (m.ask : Int), .int .u64 (m.next : Int), .int .u64 (m.asked : Int), .int .u64 (m.now : Int), .int .u64 (m.front : Int), .int .u64 (m.lat : Int), .int .u64 (m.smo : Int), .int .u64 (m.var : Int), .int .u64 (m.lea : Int), .bool m.meas, .int .i64 (m.win : Int), .bool m.shr, .int .i64 (m.thr : Int), .int .u64 (m.mom : Int)]

theorem vp_length (l : List Lg.Pk) : (vp l).length = l.length * 4 := by
  induction l with
  | nil => rfl
  | cons p l ih =>
    show (([_, _, _, _] : List Value) ++ vp l).length = _
    rw [List.length_append, ih, List.length_cons]
    simp only [List.length_cons, List.length_nil]
    omega
theorem vp_append (a b : List Lg.Pk) : vp (a ++ b) = vp a ++ vp b := by unfold vp; rw [List.flatMap_append]
theorem vp_one (l : List Lg.Pk) : ∀ u ∈ vp l, u.oneCell' = true := by
  intro u hu
  obtain ⟨r, _, h⟩ := List.mem_flatMap.1 hu
  simp only [List.mem_cons, List.not_mem_nil, or_false] at h
  rcases h with rfl | rfl | rfl | rfl <;> rfl
theorem vp_at : ∀ (l : List Lg.Pk) (j : Nat) (p : Lg.Pk), l[j]? = some p → ∀ q, q < 4 → (vp l)[j * 4 + q]? = (pkC p)[q]?
  | [], _, _, h, _, _ => by simp at h
  | r :: l, 0, p, h, q, hq => by
    simp at h
    subst h
    match q, hq with
    | 0, _ => rfl
    | 1, _ => rfl
    | 2, _ => rfl
    | 3, _ => rfl
  | r :: l, j + 1, p, h, q, hq => by
    have h2 := vp_at l j p (by simpa using h) q hq
    show (([_, _, _, _] : List Value) ++ vp l)[(j + 1) * 4 + q]? = _
    rw [List.getElem?_append_right (by simp only [List.length_cons, List.length_nil]; omega)]
    simp only [List.length_cons, List.length_nil]
    rw [show (j + 1) * 4 + q - (0 + 1 + 1 + 1 + 1) = j * 4 + q by omega]
    exact h2

structure LdOk (w : World) (g : Nat) (v : Value) (m : ML) : Prop where
  row : Row w g 70 (mlC v m)
  way : RowO w 78 4 v m.way.length (vp m.way)
theorem LdOk.lt {w : World} {g : Nat} {v : Value} {m : ML} (h : LdOk w g v m) : g < w.heap.size := h.row.lt
theorem LdOk.same {w w' : World} {g : Nat} {v : Value} {m : ML} (h : LdOk w g v m) (h1 : w'.heap[g]? = w.heap[g]?) (h2 : ∀ k, v.ownBlock = some k → w'.heap[k]? = w.heap[k]?) : LdOk w' g v m := ⟨h1.trans h.row, h.way.same h2⟩
theorem LdOk.below {w w' : World} {g : Nat} {v : Value} {m : ML} (h : LdOk w g v m) (hb : Below w.heap.size w w') : LdOk w' g v m := h.same (hb.block _ h.lt) (fun k hk => hb.block _ (h.way.lt k hk))
theorem LdOk.apart {w : World} {g : Nat} {v : Value} {m : ML} (h : LdOk w g v m) : v.ownBlock ≠ some g := by
  intro e
  rcases h.way.2 with ⟨rfl, _⟩ | ⟨b, o, cap, cur, rfl, hg, _⟩
  · cases e
  · injection e with e
    subst e
    have := (show w.heap[b]? = some _ from h.row).symm.trans hg
    injection this with this
    injection this with _ this
    exact absurd this (by decide)
structure LdCells (w : World) (g : Nat) (v : Value) (m : ML) : Prop where
  c0 : w.cell? ⟨g, 0, none⟩ = some v
  c1 : w.cell? ⟨g, 1, none⟩ = some (.int .i64 (m.ask : Int))
  c2 : w.cell? ⟨g, 2, none⟩ = some (.int .u64 (m.next : Int))
  c3 : w.cell? ⟨g, 3, none⟩ = some (.int .u64 (m.asked : Int))
  c4 : w.cell? ⟨g, 4, none⟩ = some (.int .u64 (m.now : Int))
  c5 : w.cell? ⟨g, 5, none⟩ = some (.int .u64 (m.front : Int))
  c6 : w.cell? ⟨g, 6, none⟩ = some (.int .u64 (m.lat : Int))
  c7 : w.cell? ⟨g, 7, none⟩ = some (.int .u64 (m.smo : Int))
  c8 : w.cell? ⟨g, 8, none⟩ = some (.int .u64 (m.var : Int))
  c9 : w.cell? ⟨g, 9, none⟩ = some (.int .u64 (m.lea : Int))
  c10 : w.cell? ⟨g, 10, none⟩ = some (.bool m.meas)
  c11 : w.cell? ⟨g, 11, none⟩ = some (.int .i64 (m.win : Int))
  c12 : w.cell? ⟨g, 12, none⟩ = some (.bool m.shr)
  c13 : w.cell? ⟨g, 13, none⟩ = some (.int .i64 (m.thr : Int))
  c14 : w.cell? ⟨g, 14, none⟩ = some (.int .u64 (m.mom : Int))
  f : ∀ k, w.frozen? ⟨g, k, none⟩ = false
theorem row_cells {w : World} {g : Nat} {v : Value} {m : ML} (h : Row w g 70 (mlC v m)) : LdCells w g v m :=
  ⟨h.cell 0, h.cell 1, h.cell 2, h.cell 3, h.cell 4, h.cell 5, h.cell 6, h.cell 7, h.cell 8, h.cell 9, h.cell 10, h.cell 11, h.cell 12, h.cell 13, h.cell 14, fun k => h.frozen k⟩
theorem LdOk.cells {w : World} {g : Nat} {v : Value} {m : ML} (h : LdOk w g v m) : LdCells w g v m := row_cells h.row
/-- What a machine's numbers hold. -/
structure Fits (m : ML) : Prop where
  next : m.next ≤ 4611686018427387904
  asked : m.asked ≤ 1099511627775
  now : m.now ≤ 1099511627775
  front : m.front ≤ 4611686018427387903
  lat : m.lat ≤ 1099511627775
  smo : m.smo ≤ 1099511627775
  var : m.var ≤ 1099511627775
  lea : m.lea ≤ 1099511627775
  winL : 2400 ≤ m.win
  winU : m.win + 1200 * m.way.length ≤ 3000000
  thr : m.thr ≤ 3000000
  mom : m.mom ≤ 1099511627775
  num : ∀ p ∈ m.way, p.num < m.next
  size : ∀ p ∈ m.way, 1 ≤ p.size ∧ p.size ≤ 1200
  time : ∀ p ∈ m.way, p.time ≤ m.now
  up : (m.way.map (·.num)).Pairwise (· < ·)
  ask : m.ask = ((m.way.filter (·.asks)).map (·.size)).sum
  len : m.way.length ≤ 2000
def newM15 : ML := ⟨[], 0, 0, 0, 0, 0, 0, 333, 166, 0, false, 12000, false, 0, 0⟩

set_option maxRecDepth 20000 in
theorem there_yes (g : Nat) (v : Value) (m : ML) (w : World) (h : Row w g 70 (mlC v m)) (hw : 0 < m.win) :
    Calls Tryz.prog 24 #[.pointer (some ⟨g, 0, none⟩)] w fun e w' => e = .returned (.bool true) ∧ w' = w := by
  have c := (row_cells h).c11
  have h0 : decide ((0 : Int) < (m.win : Int)) = true := by simp; omega
  have h0n : decide (0 < m.win) = true := by simp; omega
  clear h hw
  go_enter Tryz.func24, Tryz.ntmps24
  go_wp2
  go_ret
  exact ⟨rfl, rfl⟩
set_option maxRecDepth 20000 in
theorem there_nil (w : World) :
    Calls Tryz.prog 24 #[.pointer none] w fun e w' => e = .returned (.bool false) ∧ w' = w := by
  go_enter Tryz.func24, Tryz.ntmps24
  go_wp2
  go_ret
  exact ⟨rfl, rfl⟩
set_option maxRecDepth 20000 in
theorem mayBe_any (g : Nat) (v : Value) (m : ML) (t : Nat) (w : World) (h : Row w g 70 (mlC v m)) :
    Calls Tryz.prog 25 #[.pointer (some ⟨g, 0, none⟩), .int .u64 (t : Int)] w fun e w' => e = .returned (.bool (decide (m.now ≤ t) && decide (t ≤ 1099511627775))) ∧ w' = w := by
  have c := (row_cells h).c4
  clear h
  obtain ⟨b1, hb1⟩ : ∃ b, decide (m.now ≤ t) = b := ⟨_, rfl⟩
  obtain ⟨b2, hb2⟩ : ∃ b, decide (t ≤ 1099511627775) = b := ⟨_, rfl⟩
  have e1 : decide ((m.now : Int) ≤ (t : Int)) = b1 := by rw [← hb1]; simp
  have e2 : decide ((t : Int) ≤ 1099511627775) = b2 := by rw [← hb2]; congr 1; apply propext; omega
  rw [hb1, hb2]
  cases b1
  · go_enter Tryz.func25, Tryz.ntmps25
    go_wp2
    go_ret
    exact ⟨rfl, rfl⟩
  · go_enter Tryz.func25, Tryz.ntmps25
    go_wp2
    go_ret
    exact ⟨rfl, rfl⟩
set_option maxRecDepth 20000 in
theorem unmeasured_any (w : World) :
    Calls Tryz.prog 23 #[] w fun e w' => e = .returned (.agg (tmC 0 333 166 0)) ∧ Below w.heap.size w w' := by
  go_enter Tryz.func23, Tryz.ntmps23
  go_wp2
  refine bodyPost_ret (results_cell_row rfl _ _ w.heap.size 66 _ (0, 0) _ rfl (Row.new _ _ _) Tryz.underlying66 rfl (by kernel_rfl)) rfl ⟨rfl, ?_⟩
  exact (Below.refl w.heap.size w).alloc (Nat.le_refl _) _
end Go.Proofs.YtohoieleakieeaaGreatDoor

/-! The times of a ledger: patience, wait, what is between two numbers, one more that is measured. -/
namespace Go.Proofs.YtohoieleakieeaaGreatDoor
open Go Go.RowKit

def patN (lat smo : Nat) : Nat := max (9 * max smo lat / 8) 1
def waitN (smo var : Nat) : Nat := smo + max (4 * var) 1 + 25
set_option maxRecDepth 20000 in
theorem patience_any (lat smo var lea : Nat) (w : World) (h1 : lat ≤ 1099511627775) (h2 : smo ≤ 1099511627775) :
    Calls Tryz.prog 84 #[.agg (tmC lat smo var lea)] w fun e w' => e = .returned (.int .u64 (patN lat smo : Int)) ∧ Below w.heap.size w w' := by
  have r0 : Row (w.alloc (.cells (tmC lat smo var lea) 66)) w.heap.size 66 (tmC lat smo var lea) := Row.new _ _ _
  have B := veil ((Below.refl w.heap.size w).alloc (Nat.le_refl _) (.cells (tmC lat smo var lea) 66))
  have c0 : (w.alloc (.cells (tmC lat smo var lea) 66)).cell? ⟨w.heap.size, 0, none⟩ = some (.int .u64 (lat : Int)) := r0.cell 0
  have c1 : (w.alloc (.cells (tmC lat smo var lea) 66)).cell? ⟨w.heap.size, 1, none⟩ = some (.int .u64 (smo : Int)) := r0.cell 1
  clear r0
  obtain ⟨k, hk⟩ : ∃ k, max smo lat = k := ⟨_, rfl⟩
  obtain ⟨q, hq⟩ : ∃ q, 9 * k / 8 = q := ⟨_, rfl⟩
  obtain ⟨p, hp⟩ : ∃ p, max q 1 = p := ⟨_, rfl⟩
  have e1 : max (smo : Int) (lat : Int) = (k : Int) := by omega
  have e2 : IntKind.u64.wrap (9 * (k : Int)) = 9 * (k : Int) := by rw [IntKind.wrap_u64]; omega
  have e3 : Int.tdiv (9 * (k : Int)) 8 = (q : Int) := by rw [Int.tdiv_eq_ediv_of_nonneg (by omega)]; omega
  have e4 : max (q : Int) 1 = (p : Int) := by omega
  have e5 : IntKind.u64.wrap (q : Int) = (q : Int) := by rw [IntKind.wrap_u64]; omega
  have hP : patN lat smo = p := by unfold patN; rw [hk, hq, hp]
  rw [hP]
  clear hk hq hp hP h1 h2
  go_enter Tryz.func84, Tryz.ntmps84
  go_wp2
  go_ret
  exact ⟨rfl, B.out⟩
set_option maxRecDepth 20000 in
theorem wait_any (lat smo var lea : Nat) (w : World) (h1 : smo ≤ 1099511627775) (h2 : var ≤ 1099511627775) :
    Calls Tryz.prog 85 #[.agg (tmC lat smo var lea)] w fun e w' => e = .returned (.int .u64 (waitN smo var : Int)) ∧ Below w.heap.size w w' := by
  have r0 : Row (w.alloc (.cells (tmC lat smo var lea) 66)) w.heap.size 66 (tmC lat smo var lea) := Row.new _ _ _
  have B := veil ((Below.refl w.heap.size w).alloc (Nat.le_refl _) (.cells (tmC lat smo var lea) 66))
  have c1 : (w.alloc (.cells (tmC lat smo var lea) 66)).cell? ⟨w.heap.size, 1, none⟩ = some (.int .u64 (smo : Int)) := r0.cell 1
  have c2 : (w.alloc (.cells (tmC lat smo var lea) 66)).cell? ⟨w.heap.size, 2, none⟩ = some (.int .u64 (var : Int)) := r0.cell 2
  clear r0
  obtain ⟨p, hp⟩ : ∃ p, max (4 * var) 1 = p := ⟨_, rfl⟩
  obtain ⟨z, hz⟩ : ∃ z, waitN smo var = z := ⟨_, rfl⟩
  have hz' := hz
  unfold waitN at hz'
  rw [hp] at hz'
  have e2 : IntKind.u64.wrap (4 * (var : Int)) = 4 * (var : Int) := by rw [IntKind.wrap_u64]; omega
  have e4 : max (4 * (var : Int)) 1 = (p : Int) := by omega
  have e5 : IntKind.u64.wrap ((smo : Int) + (p : Int)) = (smo : Int) + (p : Int) := by rw [IntKind.wrap_u64]; omega
  have e6 : IntKind.u64.wrap ((smo : Int) + (p : Int) + 25) = (z : Int) := by rw [IntKind.wrap_u64]; omega
  rw [hz]
  clear hp hz hz' h1 h2
  go_enter Tryz.func85, Tryz.ntmps85
  go_wp2
  go_ret
  exact ⟨rfl, B.out⟩
set_option maxRecDepth 20000 in
theorem between_any (a b : Nat) (w : World) (h1 : a ≤ 1099511627775) (h2 : b ≤ 1099511627775) :
    Calls Tryz.prog 124 #[.int .u64 (a : Int), .int .u64 (b : Int)] w fun e w' => e = .returned (.int .u64 ((max a b - min a b : Nat) : Int)) ∧ w' = w := by
  obtain ⟨z, hz⟩ : ∃ z, max a b - min a b = z := ⟨_, rfl⟩
  have e6 : IntKind.u64.wrap (max (a : Int) (b : Int) - min (a : Int) (b : Int)) = (z : Int) := by rw [IntKind.wrap_u64]; omega
  rw [hz]
  clear hz h1 h2
  go_enter Tryz.func124, Tryz.ntmps124
  go_wp2
  go_ret
  exact ⟨rfl, rfl⟩
end Go.Proofs.YtohoieleakieeaaGreatDoor
