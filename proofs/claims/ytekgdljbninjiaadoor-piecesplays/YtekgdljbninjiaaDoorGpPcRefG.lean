/-
  The document's pieces: room for one byte more; a byte laid where none was.
-/
import Derived.Test.YtekgdljbninjiaaDoorGpPcRefT
namespace Go.Proofs.YtekgdljbninjiaaDoor
open Go Go.RowKit Go.Maps Go.Shelf

theorem tlR_more {f : Nat → Option By} {r n : Nat} (h : f (r + n) = none) : tlR f r (n + 1) = tlR f r n ++ [.bool false] := by
  unfold tlR
  rw [List.range_succ, List.map_append, List.map_singleton, h]
  rfl
theorem blR_more {f : Nat → Option By} {r n : Nat} (h : f (r + n) = none) : blR f r (n + 1) = blR f r n ++ [.int .u8 0] := by
  unfold blR
  rw [List.range_succ, List.map_append, List.map_singleton, h]
  rfl
theorem infoBool : (Tryd.prog.info? 4).map (fun i => (i.zero, i.size, i.bytes)) = some (some (.bool false), 1, 1) := by kernel_rfl
/-- Where the row of one slice went: it stayed, or it is new. -/
def Went (w : World) (g g' : Nat) : Prop := g' = g ∨ w.heap.size ≤ g'

theorem KeepP.weak {st st' : Nat → Prop} {A B : World} (h : KeepP st A B) (hs : ∀ k, k < A.heap.size → st k → st' k) : KeepP st' A B := ⟨h.os, h.tape, h.output, h.size, fun k hk hn => h.block k hk (fun e => hn (hs k hk e))⟩

/-- Room for one more. -/
theorem grow_step {w : World} {r gt gb : Nat} {S : PS} {n : Nat} {a : Option Addr} {c o : Nat} {a' : Option Addr} {c' o' : Nat} (h : RfAt w r gt gb S n a c o a' c' o') (hn : n < S.room) (hr : S.room ≤ 1048576) :
    ∃ a2 c2 W2, (Builtin.append_ #[64, 64] 64 #[.slice a n c, .slice (some ⟨w.heap.size, 0, .none⟩) 1 1]).run Tryd.prog (w.alloc (.cells #[.bool false] 4)) = .ok (.slice a2 (n + 1) c2) W2 ∧
      W2.cell? ⟨r, 5, .none⟩ = some (.slice a n c) ∧ W2.frozen? ⟨r, 5, .none⟩ = false ∧
    ∃ W3, W3 = W2.setCell ⟨r, 5, .none⟩ (.slice a2 (n + 1) c2) ∧ W3.cell? ⟨r, 6, .none⟩ = some (.slice a' n c') ∧
    ∃ a3 c3 W5, (Builtin.append_ #[49, 49] 49 #[.slice a' n c', .slice (some ⟨W3.heap.size, 0, .none⟩) 1 1]).run Tryd.prog (W3.alloc (.cells #[.int .u8 0] 5)) = .ok (.slice a3 (n + 1) c3) W5 ∧
      W5.cell? ⟨r, 6, .none⟩ = some (.slice a' n c') ∧ W5.frozen? ⟨r, 6, .none⟩ = false ∧
    ∃ gt' gb' o2 o3, RfAt (W5.setCell ⟨r, 6, .none⟩ (.slice a3 (n + 1) c3)) r gt' gb' S (n + 1) a2 c2 o2 a3 c3 o3 ∧ Went w gt gt' ∧ Went w gb gb' ∧ KeepP (Thr r gt gb) w (W5.setCell ⟨r, 6, .none⟩ (.slice a3 (n + 1) c3)) := by
  have hlt := h.lt
  have rlt := h.row.lt
  obtain ⟨i0, hi, hz0, hz1, hz2⟩ := info_parts (P := Tryd.prog) (e := 4) (z := .bool false) (size := 1) (bytes := 1) (by kernel_rfl)
  obtain ⟨i1, hi', hz0', hz1', hz2'⟩ := info_parts (P := Tryd.prog) (e := 5) (z := .int .u8 0) (size := 1) (bytes := 1) (by kernel_rfl)
  have hmL : n + 1 ≤ maxLen := by unfold maxLen; omega
  have b1 : Below w.heap.size w (w.alloc (.cells #[.bool false] 4)) := (Below.refl _ w).alloc (Nat.le_refl _) _
  have hgt := hlt gt (.inr (.inl rfl))
  have hgb := hlt gb (.inr (.inr rfl))
  obtain ⟨a2, c2, g2, o2, W2, hap, m2, hc2, hg2, hk2⟩ := mid_append (P := Tryd.prog) (h.there.same (fun _ => b1.block gt hgt) b1.size) 64 64 4 i0 (.bool false) 1 Tryd.underlying64 hi hz0 hz1 hz2 rfl ⟨w.heap.size, 0, .none⟩ (.bool false) ((Row.new w 4 #[.bool false]).cell 0) rfl hmL (by omega)
  have k2 : KeepP (fun k => 0 < c ∧ k = gt) w W2 := (KeepP.of_below b1).trans hk2
  have hn1 : ¬ (0 < c ∧ r = gt) := fun e => h.t1 e.1 e.2.symm
  have R2 : Row W2 r 66 (rfC S n a c a' c') := k2.row h.row hn1
  have g2lt : g2 < W2.heap.size := m2.lt hc2
  have hsz1 : (w.alloc (.cells #[.bool false] 4)).heap.size = w.heap.size + 1 := by simp
  have g2r : g2 ≠ r := by
    rcases hg2 with ⟨e1, e2⟩ | e
    · rw [e2]; exact h.t1 e1
    · omega
  refine ⟨a2, c2, W2, hap, R2.cell 5, R2.frozen 5, _, rfl, (R2.set 5 _).cell 6, ?_⟩
  obtain ⟨W3, hW3⟩ : ∃ W3, W3 = W2.setCell ⟨r, 5, .none⟩ (.slice a2 (n + 1) c2) := ⟨_, rfl⟩
  have R3 : Row W3 r 66 #[.int .i64 (S.room : Int), .int .u64 (S.read : Int), .int .u64 (S.come : Int), .int .u64 (lastN S : Int), .bool S.known, .slice a2 (n + 1) c2, .slice a' n c'] := by rw [hW3]; exact R2.set 5 _
  have k3 : KeepP (fun k => k = r) W2 W3 := by rw [hW3]; exact KeepP.setCell (st := fun k => k = r) rfl _ _ _
  rw [← hW3]
  have m3 := m2.same (fun _ => k3.block g2 g2lt g2r) k3.size
  have kb3 : 0 < c' → W3.heap[gb]? = w.heap[gb]? := fun p => (k3.block gb (by have := k2.size; omega) (h.b1 p)).trans (k2.block gb hgb (fun e => h.tb e.1 p e.2.symm))
  have hs13 : w.heap.size + 1 ≤ W3.heap.size := by have := hk2.size; have := k3.size; omega
  have b4 : Below W3.heap.size W3 (W3.alloc (.cells #[.int .u8 0] 5)) := (Below.refl _ W3).alloc (Nat.le_refl _) _
  obtain ⟨a3, c3, g3, o3, W5, hap', m5, hc3, hg3, hk5⟩ := mid_append (P := Tryd.prog) (h.bytes.same (fun p => (b4.block gb (by omega)).trans (kb3 p)) (by have := b4.size; omega)) 49 49 5 i1 (.int .u8 0) 1 Tryd.underlying49 hi' hz0' hz1' hz2' rfl ⟨W3.heap.size, 0, .none⟩ (.int .u8 0) ((Row.new W3 5 #[.int .u8 0]).cell 0) rfl hmL (by omega)
  have k5 : KeepP (fun k => 0 < c' ∧ k = gb) W3 W5 := (KeepP.of_below b4).trans hk5
  have hn2 : ¬ (0 < c' ∧ r = gb) := fun e => h.b1 e.1 e.2.symm
  have R5 := k5.row R3 hn2
  have hsz4 : (W3.alloc (.cells #[.int .u8 0] 5)).heap.size = W3.heap.size + 1 := by simp
  have g2w : g2 < W3.heap.size := by have := k3.size; omega
  have g3r : g3 ≠ r := by
    rcases hg3 with ⟨e1, e2⟩ | e
    · rw [e2]; exact h.b1 e1
    · omega
  have g23 : g2 ≠ g3 := by
    rcases hg3 with ⟨e1, e2⟩ | e
    · rw [e2]
      rcases hg2 with ⟨e3, e4⟩ | e4
      · rw [e4]; exact h.tb e3 e1
      · omega
    · omega
  have n2b : ¬ (0 < c' ∧ g2 = gb) := fun e => by
    rcases hg2 with ⟨e3, e4⟩ | e4
    · exact h.tb e3 e.1 (e4 ▸ e.2)
    · have := e.2; omega
  have m6 := m3.same (fun _ => k5.block g2 g2w n2b) k5.size
  have k6 : KeepP (fun k => k = r) W5 (W5.setCell ⟨r, 6, .none⟩ (.slice a3 (n + 1) c3)) := KeepP.setCell (st := fun k => k = r) rfl _ _ _
  refine ⟨a3, c3, W5, hap', R5.cell 6, R5.frozen 6, g2, g3, o2, o3, ⟨R5.set 6 _, ?_, ?_, fun e => by omega, fun _ => g2r, fun e => by omega, fun _ => g3r, fun _ _ => g23, hn, fun x hx => h.none x (by omega)⟩, ?_, ?_, ?_⟩
  · rw [tlR_more (h.none _ (Nat.le_refl _))]
    exact m6.same (fun _ => k6.block g2 (by have := k5.size; omega) g2r) k6.size
  · rw [blR_more (h.none _ (Nat.le_refl _))]
    exact m5.same (fun _ => k6.block g3 (m5.lt hc3) g3r) k6.size
  · rcases hg2 with ⟨_, e⟩ | e
    · exact .inl e
    · exact .inr (by omega)
  · rcases hg3 with ⟨_, e⟩ | e
    · exact .inl e
    · exact .inr (by omega)
  · exact (((k2.weak (st' := Thr r gt gb) (fun k _ e => .inr (.inl e.2))).trans (k3.weak (fun k _ e => .inl e))).trans (k5.weak (fun k _ e => .inr (.inr e.2)))).trans (k6.weak (fun k _ e => .inl e))

/-- A byte laid. -/
theorem lay_step {w : World} {r gt gb : Nat} {S : PS} {n : Nat} {a : Option Addr} {c o : Nat} {a' : Option Addr} {c' o' : Nat} (h : RfAt w r gt gb S n a c o a' c' o') {k : Nat} (hk : k < n) (y : By) {f' : Nat → Option By} (hy : f' (S.read + k) = some y) (ho : ∀ z, z ≠ S.read + k → f' z = S.f z) :
    RfAt ((w.setCell ⟨gt, o + k, .none⟩ (.bool true)).setCell ⟨gb, o' + k, .none⟩ (.int .u8 (v8 y))) r gt gb { S with f := f' } n a c o a' c' o' ∧ KeepP (Thr r gt gb) w ((w.setCell ⟨gt, o + k, .none⟩ (.bool true)).setCell ⟨gb, o' + k, .none⟩ (.int .u8 (v8 y))) := by
  have hc : 0 < c := by have := h.there.le; omega
  have hc' : 0 < c' := by have := h.bytes.le; omega
  have k1 : KeepP (fun i => i = gt) w (w.setCell ⟨gt, o + k, .none⟩ (.bool true)) := KeepP.setCell (st := fun i => i = gt) rfl _ _ _
  have k2 : KeepP (fun i => i = gb) (w.setCell ⟨gt, o + k, .none⟩ (.bool true)) ((w.setCell ⟨gt, o + k, .none⟩ (.bool true)).setCell ⟨gb, o' + k, .none⟩ (.int .u8 (v8 y))) := KeepP.setCell (st := fun i => i = gb) rfl _ _ _
  have e1 : (tlR S.f S.read n).set k (.bool true) = tlR f' S.read n := by
    refine List.ext_getElem? fun j => ?_
    by_cases hj : j < n
    · rw [tlR_at _ _ hj]
      by_cases e : k = j
      · subst e
        rw [List.getElem?_set_self (by unfold tlR; simpa using hj), hy]
        rfl
      · rw [List.getElem?_set_ne e, tlR_at _ _ hj, ho _ (by omega)]
    · rw [List.getElem?_eq_none (by rw [List.length_set]; unfold tlR; simp; omega), List.getElem?_eq_none (by unfold tlR; simp; omega)]
  have e2 : (blR S.f S.read n).set k (.int .u8 (v8 y)) = blR f' S.read n := by
    refine List.ext_getElem? fun j => ?_
    by_cases hj : j < n
    · rw [blR_at _ _ hj]
      by_cases e : k = j
      · subst e
        rw [List.getElem?_set_self (by unfold blR; simpa using hj), hy]
        rfl
      · rw [List.getElem?_set_ne e, blR_at _ _ hj, ho _ (by omega)]
    · rw [List.getElem?_eq_none (by rw [List.length_set]; unfold blR; simp; omega), List.getElem?_eq_none (by unfold blR; simp; omega)]
  have m1 := h.there.set hk (.bool true)
  rw [e1] at m1
  have m2 := (h.bytes.same (fun _ => k1.block gb (h.lt gb (.inr (.inr rfl))) (Ne.symm (h.tb hc hc'))) k1.size).set hk (.int .u8 (v8 y))
  rw [e2] at m2
  refine ⟨⟨k2.row (k1.row h.row (Ne.symm (h.t1 hc))) (Ne.symm (h.b1 hc')), m1.same (fun _ => k2.block gt (m1.lt hc) (h.tb hc hc')) k2.size, m2, h.t0, h.t1, h.b0, h.b1, h.tb, h.room, fun x hx => ?_⟩, (k1.weak (fun _ _ e => .inr (.inl e))).trans (k2.weak (fun _ _ e => .inr (.inr e)))⟩
  show f' x = none
  have hx' : S.read + n ≤ x := hx
  rw [ho x (by omega)]
  exact h.none x hx
end Go.Proofs.YtekgdljbninjiaaDoor
