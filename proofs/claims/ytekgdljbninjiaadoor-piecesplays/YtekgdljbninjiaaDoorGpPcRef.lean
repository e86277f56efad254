/-
  The document's pieces in memory; its New, Read, End, Held.
-/
import Derived.Test.YtekgdljbninjiaaDoorGp4
import Derived.Test.YtekgdljbninjiaaDoorGpPcMem
import Derived.BigQuiet
namespace Go.Proofs.YtekgdljbninjiaaDoor
open Go Go.RowKit Go.Maps Go.Shelf

def tlR (f : Nat → Option By) (r n : Nat) : List Value := (List.range n).map fun j => .bool (f (r + j)).isSome
def blR (f : Nat → Option By) (r n : Nat) : List Value := (List.range n).map fun j => .int .u8 (ob (f (r + j)))
theorem tlR_at (f : Nat → Option By) (r : Nat) {n j : Nat} (h : j < n) : (tlR f r n)[j]? = some (.bool (f (r + j)).isSome) := by
  unfold tlR
  rw [List.getElem?_map, List.getElem?_range h]
  rfl
theorem blR_at (f : Nat → Option By) (r : Nat) {n j : Nat} (h : j < n) : (blR f r n)[j]? = some (.int .u8 (ob (f (r + j)))) := by
  unfold blR
  rw [List.getElem?_map, List.getElem?_range h]
  rfl
def lastN (S : PS) : Nat := if S.known = true then S.come else 0
/-- The seven cells. -/
def rfC (S : PS) (n : Nat) (a : Option Addr) (c : Nat) (a' : Option Addr) (c' : Nat) : Array Value :=
  #[.int .i64 (S.room : Int), .int .u64 (S.read : Int), .int .u64 (S.come : Int), .int .u64 (lastN S : Int), .bool S.known, .slice a n c, .slice a' n c']
/-- The document's pieces stand so. -/
structure RfAt (w : World) (r gt gb : Nat) (S : PS) (n : Nat) (a : Option Addr) (c o : Nat) (a' : Option Addr) (c' o' : Nat) : Prop where
  row : Row w r 66 (rfC S n a c a' c')
  there : Mid w a n c gt o (tlR S.f S.read n)
  bytes : Mid w a' n c' gb o' (blR S.f S.read n)
  t0 : c = 0 → gt = r
  t1 : 0 < c → gt ≠ r
  b0 : c' = 0 → gb = r
  b1 : 0 < c' → gb ≠ r
  tb : 0 < c → 0 < c' → gt ≠ gb
  room : n ≤ S.room
  none : ∀ x, S.read + n ≤ x → S.f x = none
structure RfOk (w : World) (r gt gb : Nat) (S : PS) : Prop where
  fine : S.Fine
  ex : ∃ n a c o a' c' o', RfAt w r gt gb S n a c o a' c' o'
def Thr (r gt gb k : Nat) : Prop := k = r ∨ k = gt ∨ k = gb
theorem RfAt.same {w w' : World} {r gt gb : Nat} {S : PS} {n : Nat} {a : Option Addr} {c o : Nat} {a' : Option Addr} {c' o' : Nat} (h : RfAt w r gt gb S n a c o a' c' o') (hs : ∀ k, Thr r gt gb k → w'.heap[k]? = w.heap[k]?) (hz : w.heap.size ≤ w'.heap.size) : RfAt w' r gt gb S n a c o a' c' o' :=
  ⟨(hs r (.inl rfl)).trans h.row, h.there.same (fun _ => hs gt (.inr (.inl rfl))) hz, h.bytes.same (fun _ => hs gb (.inr (.inr rfl))) hz, h.t0, h.t1, h.b0, h.b1, h.tb, h.room, h.none⟩
theorem RfOk.same {w w' : World} {r gt gb : Nat} {S : PS} (h : RfOk w r gt gb S) (hs : ∀ k, Thr r gt gb k → w'.heap[k]? = w.heap[k]?) (hz : w.heap.size ≤ w'.heap.size) : RfOk w' r gt gb S := by
  obtain ⟨f, n, a, c, o, a', c', o', h⟩ := h
  exact ⟨f, n, a, c, o, a', c', o', h.same hs hz⟩
theorem RfAt.lt {w : World} {r gt gb : Nat} {S : PS} {n : Nat} {a : Option Addr} {c o : Nat} {a' : Option Addr} {c' o' : Nat} (h : RfAt w r gt gb S n a c o a' c' o') : ∀ k, Thr r gt gb k → k < w.heap.size := by
  have h0 := h.row.lt
  rintro k (rfl | rfl | rfl)
  · exact h0
  · rcases Nat.eq_zero_or_pos c with e | e
    · rw [h.t0 e]; exact h0
    · exact h.there.lt e
  · rcases Nat.eq_zero_or_pos c' with e | e
    · rw [h.b0 e]; exact h0
    · exact h.bytes.lt e
theorem RfOk.lt {w : World} {r gt gb : Nat} {S : PS} (h : RfOk w r gt gb S) : ∀ k, Thr r gt gb k → k < w.heap.size := by
  obtain ⟨f, n, a, c, o, a', c', o', h⟩ := h
  exact h.lt
theorem RfOk.below {w w' : World} {r gt gb : Nat} {S : PS} (h : RfOk w r gt gb S) (hb : Below w.heap.size w w') : RfOk w' r gt gb S := h.same (fun k hk => hb.block k (h.lt k hk)) hb.size
theorem RfOk.keepP {w w' : World} {r gt gb : Nat} {S : PS} {st : Nat → Prop} (h : RfOk w r gt gb S) (k : KeepP st w w') (hs : ∀ i, Thr r gt gb i → ¬ st i) : RfOk w' r gt gb S := h.same (fun i hi => k.block i (h.lt i hi) (hs i hi)) k.size
theorem RfAt.cells {w : World} {r gt gb : Nat} {S : PS} {n : Nat} {a : Option Addr} {c o : Nat} {a' : Option Addr} {c' o' : Nat} (h : RfAt w r gt gb S n a c o a' c' o') :
    w.cell? ⟨r, 0, .none⟩ = some (.int .i64 (S.room : Int)) ∧ w.cell? ⟨r, 1, .none⟩ = some (.int .u64 (S.read : Int)) ∧ w.cell? ⟨r, 2, .none⟩ = some (.int .u64 (S.come : Int)) ∧ w.cell? ⟨r, 3, .none⟩ = some (.int .u64 (lastN S : Int)) ∧ w.cell? ⟨r, 4, .none⟩ = some (.bool S.known) ∧ w.cell? ⟨r, 5, .none⟩ = some (.slice a n c) ∧ w.cell? ⟨r, 6, .none⟩ = some (.slice a' n c') :=
  ⟨h.row.cell 0, h.row.cell 1, h.row.cell 2, h.row.cell 3, h.row.cell 4, h.row.cell 5, h.row.cell 6⟩

set_option maxHeartbeats 400000 in
theorem rnew_any (rm : Nat) (w : World) (hr : rm ≤ 1048576) :
    Calls Tryd.prog 6 #[.int .i64 (rm : Int)] w fun e w' => ∃ r, e = .returned (.tuple #[.pointer (some ⟨r, 0, .none⟩), .int .i64 0]) ∧ RfOk w' r r r (Pc.newS rm) ∧ w.heap.size ≤ r ∧ Below w.heap.size w w' := by
  have h1 : ¬ ((rm : Int) < 0) := by omega
  have h2 : ¬ ((rm : Int) > 1048576) := by omega
  go_enter Tryd.func6, Tryd.ntmps6
  go_wp2
  go_ret2
  refine ⟨_, rfl, ⟨Pc.new_fine hr, 0, .none, 0, 0, .none, 0, 0, Row.new _ _ _, Mid.none _ _, Mid.none _ _, fun _ => rfl, fun h => absurd h (Nat.lt_irrefl _), fun _ => rfl, fun h => absurd h (Nat.lt_irrefl _), fun h => absurd h (Nat.lt_irrefl _), Nat.zero_le _, fun _ _ => rfl⟩, Nat.le_refl _, (Below.refl _ w).alloc (Nat.le_refl _) _⟩
set_option maxHeartbeats 400000 in
theorem rnew_no (r : Int) (w : World) (hr : r < 0 ∨ 1048576 < r) :
    Calls Tryd.prog 6 #[.int .i64 r] w fun e w' => e = .returned (.tuple #[.pointer .none, .int .i64 1]) ∧ w' = w := by
  by_cases h1 : r < 0
  · go_enter Tryd.func6, Tryd.ntmps6
    go_wp2
    go_ret2
    exact ⟨rfl, rfl⟩
  · have h2 : r > 1048576 := by omega
    go_enter Tryd.func6, Tryd.ntmps6
    go_wp2
    go_ret2
    exact ⟨rfl, rfl⟩
set_option maxHeartbeats 400000 in
theorem rread_any (S : PS) (r gt gb : Nat) (w : World) (h : RfOk w r gt gb S) :
    Calls Tryd.prog 18 #[.pointer (some ⟨r, 0, .none⟩)] w fun e w' => e = .returned (.int .u64 (S.read : Int)) ∧ w' = w := by
  obtain ⟨_, n, a, c, o, a', c', o', h⟩ := h
  obtain ⟨c0, c1, c2, c3, c4, c5, c6⟩ := h.cells
  clear h
  go_enter Tryd.func18, Tryd.ntmps18
  go_wp2
  go_ret
  exact ⟨rfl, rfl⟩
set_option maxHeartbeats 400000 in
theorem rend_any (S : PS) (r gt gb : Nat) (w : World) (h : RfOk w r gt gb S) :
    Calls Tryd.prog 16 #[.pointer (some ⟨r, 0, .none⟩)] w fun e w' => e = .returned (.tuple #[.int .u64 (lastN S : Int), .bool S.known]) ∧ Below w.heap.size w w' := by
  obtain ⟨_, n, a, c, o, a', c', o', h⟩ := h
  obtain ⟨c0, c1, c2, c3, c4, c5, c6⟩ := h.cells
  clear h
  go_enter Tryd.func16, Tryd.ntmps16
  go_wp2_with fail
  go_quiet (fail)
  go_wp2
  go_ret2
  exact ⟨rfl, below_drewN (Below.refl _ _) _⟩
theorem RfAt.held {w : World} {r gt gb : Nat} {S : PS} {n : Nat} {a : Option Addr} {c o : Nat} {a' : Option Addr} {c' o' : Nat} (h : RfAt w r gt gb S n a c o a' c' o') : Pc.cnt S.f S.read n = Pc.heldN S := by
  have h1 := h.room
  have := Pc.cnt_more (f := S.f) (a := S.read) (n := n) (k := S.room - n) (fun x hx _ => h.none x hx)
  rw [← this]
  unfold Pc.heldN
  rw [Nat.add_sub_cancel' h1]
set_option maxRecDepth 20000 in
set_option maxHeartbeats 1000000 in
theorem rheld_any (S : PS) (r gt gb : Nat) (w : World) (h : RfOk w r gt gb S) :
    Calls Tryd.prog 20 #[.pointer (some ⟨r, 0, .none⟩)] w fun e w' => e = .returned (.int .i64 (Pc.heldN S : Int)) ∧ w' = w := by
  obtain ⟨hf, n, a, c, o, a', c', o', h⟩ := h
  obtain ⟨c0, c1, c2, c3, c4, c5, c6⟩ := h.cells
  rw [← h.held]
  have hn : n ≤ 1048576 := Nat.le_trans h.room hf.room
  have HA := veil h
  clear h hf c0 c1 c2 c3 c4 c6
  go_enter Tryd.func20, Tryd.ntmps20
  go_wp2_with fail
  go_loopw [3, 4] (fun nv iv wr => ∃ k : Nat, k ≤ n ∧ iv = .int .i64 (k : Int) ∧ nv = .int .i64 (Pc.cnt S.f S.read k : Int) ∧ wr = w)
    (fun _ iv _ => n - (intOf iv).toNat)
  case atStart => exact ⟨0, Nat.zero_le _, rfl, rfl, rfl⟩
  case round =>
    obtain ⟨k, hk, rfl, rfl, rfl⟩ := hrel
    by_cases hlt : k < n
    · have d1 : decide ((k : Int) < (n : Int)) = true := by simp; omega
      have d1n : decide (k < n) = true := by simp; omega
      have hcap : 0 < c := by have := HA.out.there.le; omega
      have ea : a = some ⟨gt, o, .none⟩ := HA.out.there.addr hcap
      subst ea
      have cl := HA.out.there.cell k _ (tlR_at S.f S.read hlt)
      have HC := veil (show Pc.cnt S.f S.read (k + 1) = Pc.cnt S.f S.read k + (if (S.f (S.read + k)).isSome then 1 else 0) from rfl)
      have hcl := Pc.cnt_le S.f S.read k
      have hwi : IntKind.i64.wrap ((k : Int) + 1) = ((k + 1 : Nat) : Int) := by rw [IntKind.wrap_i64]; omega
      generalize Pc.cnt S.f S.read k = N at *
      have hwn : IntKind.i64.wrap ((N : Int) + 1) = ((N + 1 : Nat) : Int) := by rw [IntKind.wrap_i64]; omega
      cases hb : (S.f (S.read + k)).isSome with
      | true =>
        rw [hb] at cl HC
        clear hb
        go_wp2_with fail
        go_roundw
        case rel => exact ⟨k + 1, hlt, by go_num, by rw [HC.out]; simp, trivial⟩
        case measure => simp [intOf]; omega
      | false =>
        rw [hb] at cl HC
        clear hb
        go_wp2_with fail
        go_roundw
        case rel => exact ⟨k + 1, hlt, by go_num, by rw [HC.out]; simp, trivial⟩
        case measure => simp [intOf]; omega
    · obtain rfl : n = k := by omega
      have d1 : decide ((n : Int) < (n : Int)) = false := by simp
      go_wp2_with fail
      go_ret
      exact ⟨rfl, rfl⟩
end Go.Proofs.YtekgdljbninjiaaDoor
