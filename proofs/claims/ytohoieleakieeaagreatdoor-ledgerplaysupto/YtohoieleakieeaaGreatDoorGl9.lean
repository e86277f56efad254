/-
  Out of LgGrow, LgGoes.
-/
import Derived.Test.YtohoieleakieeaaGreatDoorGl21
import Derived.Test.YtohoieleakieeaaGreatDoorGl6

/-! The body of a range over takeOut: each packet that is told is appended to a list of the caller's. No walk of a caller in sight. -/
namespace Go.Proofs.YtohoieleakieeaaGreatDoor
open Go Go.RowKit Go.Shelf

structure GrI (w0 : World) (z bx : Nat) (T : List Lg.Pk) (M0 : Nat → Prop) (j : Nat) (M : Nat → Prop) (W : World) : Prop where
  lo : ∀ k, M k → M0 k ∨ z ≤ k
  box : ∃ u, Row W bx 68 #[u] ∧ RowO W 78 4 u j (vp (T.take j)) ∧ (∀ k, u.ownBlock = some k → z + 2 ≤ k ∧ ¬ M k)
  old : ∀ k, k < z → ¬ M0 k → k ≠ bx → W.heap[k]? = w0.heap[k]?
  os : W.os = w0.os
  tape : W.tape = w0.tape
  output : W.output = w0.output
  jle : j ≤ T.length
  sz : z ≤ W.heap.size
section
variable {w0 : World} {z bx : Nat} {T : List Lg.Pk} {M0 : Nat → Prop} {j : Nat} {M : Nat → Prop} {A B : World}
theorem GrI.keep (h : GrI w0 z bx T M0 j M A) (hb : bx < z) (k : KeepP (fun k => k = z + 1) A B) : GrI w0 z bx T M0 j M B := by
  obtain ⟨u, h1, h2, h3⟩ := h.box
  have hz := h.sz
  exact ⟨h.lo, ⟨u, k.row h1 (by omega), h2.same (fun q hq => k.block q (h2.lt q hq) (by have := (h3 q hq).1; omega)), h3⟩, fun q hq hm hx => (k.block q (by omega) (by omega)).trans (h.old q hq hm hx), k.os.trans h.os, k.tape.trans h.tape, k.output.trans h.output, h.jle, Nat.le_trans hz k.size⟩
theorem GrI.keepM (h : GrI w0 z bx T M0 j M A) (hb : bx < z) (hM0 : ¬ M0 bx) (k : KeepM M A B) : GrI w0 z bx T M0 j (newM M A B) B := by
  obtain ⟨u, h1, h2, h3⟩ := h.box
  have hz := h.sz
  have hnb : ¬ M bx := fun q => (h.lo bx q).elim hM0 (fun q => by omega)
  refine ⟨?_, ⟨u, (k.block _ h1.lt hnb).trans h1, h2.same (fun q hq => k.block q (h2.lt q hq) (h3 q hq).2), fun q hq => ⟨(h3 q hq).1, ?_⟩⟩, fun q hq hm hx => (k.block q (by omega) (fun c => (h.lo q c).elim hm (fun c => by omega))).trans (h.old q hq hm hx), k.os.trans h.os, k.tape.trans h.tape, k.output.trans h.output, h.jle, Nat.le_trans hz k.size⟩
  · rintro q (c | ⟨c, _⟩)
    · exact h.lo q c
    · exact .inr (by omega)
  · rintro (c | ⟨c, _⟩)
    · exact (h3 q hq).2 c
    · have := h2.lt q hq
      omega
/-- One packet more. -/
theorem GrI.next {V W : World} {x : Lg.Pk} (h : GrI w0 z bx T M0 j M V) (hb : bx < z) (hM0 : ¬ M0 bx) (hk : KeepP (fun k => k = z + 1) V W) (hx : T[j]? = some x) (hT : T.length ≤ 2000) (hz2 : z + 2 ≤ V.heap.size) (hMl : ∀ k, M k → k < V.heap.size) :
    ∃ u ua un uc W2, W.cell? ⟨bx, 0, none⟩ = some u ∧ (Builtin.append_ #[68, 68] 68 #[u, .slice (some ⟨W.heap.size, 0, none⟩) 1 1]).run Tryz.prog (W.alloc (.cells #[.int .u64 (x.num : Int), .int .i64 (x.size : Int), .int .u64 (x.time : Int), .bool x.asks] 78)) = .ok (.slice ua un uc) W2 ∧
      W2.cell? ⟨bx, 0, none⟩ = some u ∧ W2.frozen? ⟨bx, 0, none⟩ = false ∧ KeepY (z + 2) (fun k => k = bx) M W (W2.setCell ⟨bx, 0, none⟩ (.slice ua un uc)) ∧ GrI w0 z bx T M0 (j + 1) M (W2.setCell ⟨bx, 0, none⟩ (.slice ua un uc)) := by
  have hW := h.keep hb hk
  have hks := hk.size
  obtain ⟨u, h1, h2, h3⟩ := hW.box
  have hjl := (List.getElem?_eq_some_iff.1 hx).1
  have hlen : (T.take j).length = j := by rw [List.length_take]; omega
  have hnb : ¬ M bx := fun q => (h.lo bx q).elim hM0 (fun q => by omega)
  have hb1 : Below W.heap.size W (W.alloc (.cells (pkC x) 78)) := (Below.refl _ W).alloc (Nat.le_refl _) _
  have h4 := h2.below hb1
  have h4' : RowO (W.alloc (.cells (pkC x) 78)) 78 4 u (T.take j).length (vp (T.take j)) := by rw [hlen]; exact h4
  obtain ⟨u', W2, a1, a2, a3⟩ := pk_append (W.alloc (.cells (pkC x) 78)) 68 u (T.take j) x W.heap.size h4' (Row.new _ _ _) (by rw [hlen]; omega)
  have h5 : (T.take j ++ [x]).length = j + 1 := by rw [List.length_append, hlen]; rfl
  rw [h5] at a2
  obtain ⟨ua, uc, hus, _, _⟩ := a2.shape
  have k1 : KeepP (fun k => u.ownBlock = some k) (W.alloc (.cells (pkC x) 78)) W2 := keepL_of (a3.imp (fun q => q.2) (fun q => q.1))
  have hub : ∀ k, u.ownBlock = some k → k ≠ bx := fun k q => by have := (h3 k q).1; omega
  have k2 : KeepP (fun k => u.ownBlock = some k) W W2 := (KeepP.of_below hb1).trans k1
  have row2 : Row W2 bx 68 #[u] := k2.row h1 (fun q => hub bx q rfl)
  have hu' : ∀ k, u'.ownBlock = some k → z + 2 ≤ k ∧ ¬ M k := by
    intro k q
    rcases a3 with ⟨c, _⟩ | ⟨_, c⟩
    · rw [c] at q; exact h3 k q
    · rw [c k q]
      have : (W.alloc (.cells (pkC x) 78)).heap.size = W.heap.size + 1 := by simp
      exact ⟨by omega, fun c2 => by have := hMl _ c2; omega⟩
  have blk : ∀ k, k < W.heap.size → k ≠ bx → u.ownBlock ≠ some k → (W2.setCell ⟨bx, 0, none⟩ u').heap[k]? = W.heap[k]? := fun k hk1 hk2 hk3 => (Below.heap_setCell W2 ⟨bx, 0, none⟩ u' k hk2).trans (k2.block k hk1 hk3)
  have hsz : W.heap.size ≤ (W2.setCell ⟨bx, 0, none⟩ u').heap.size := by have := k2.size; simp [World.setCell]; exact this
  have htk : T.take (j + 1) = T.take j ++ [x] := by rw [List.take_add_one, hx]; rfl
  subst hus
  refine ⟨u, ua, _, uc, W2, h1.cell 0, a1, row2.cell 0, row2.frozen 0, ⟨k2.os, k2.tape, k2.output, hsz, fun k hk1 hk2 => ?_⟩, ⟨h.lo, ⟨_, row2.set 0 _, ?_, hu'⟩, fun k c1 c2 c3 => (blk k (by have := hW.sz; omega) c3 (fun q => by have := (h3 k q).1; omega)).trans (hW.old k c1 c2 c3), k2.os.trans hW.os, k2.tape.trans hW.tape, k2.output.trans hW.output, hjl, Nat.le_trans hW.sz hsz⟩⟩
  · refine blk k hk1 (fun q => ?_) (fun q => ?_)
    · rcases hk2 with c | c
      · exact c.2 q
      · rw [q] at c; exact hnb c
    · rcases hk2 with c | c
      · have := (h3 k q).1; omega
      · exact (h3 k q).2 c
  · rw [htk]
    exact a2.same (fun k q => Below.heap_setCell _ _ _ _ (fun c => by have := (hu' k q).1; have c' : k = bx := c; omega))
end
end Go.Proofs.YtohoieleakieeaaGreatDoor

/-! What takeOut is handed: is a packet late, was it answered? And takeOut itself. -/
namespace Go.Proofs.YtohoieleakieeaaGreatDoor
open Go Go.RowKit Go.Shelf

def lateX (m : ML) (p : Lg.Pk) : Bool := decide (p.num + 3 ≤ m.front) || decide (p.time + patN m.lat m.smo ≤ m.now)
set_option maxRecDepth 20000 in
set_option maxHeartbeats 1000000 in
theorem late_any (g C1 C2 : Nat) (v : Value) (m : ML) (pt : Nat) (p : Lg.Pk) (w : World) (h : Row w g 70 (mlC v m)) (h1 : Row w C1 28 #[.pointer (some ⟨g, 0, none⟩)]) (h2 : Row w C2 23 #[.int .u64 (pt : Int)]) (hp : p.num ≤ 4611686018427387904) (ht : p.time ≤ 1099511627775) (hpt : pt ≤ 2000000000000) :
    Calls Tryz.prog 93 #[.agg (pkC p), .pointer (some ⟨C1, 0, none⟩), .pointer (some ⟨C2, 0, none⟩)] w fun e w' => e = .returned (.bool (decide (p.num + 3 ≤ m.front) || decide (p.time + pt ≤ m.now))) ∧ Below w.heap.size w w' := by
  have hb := (Below.refl w.heap.size w).alloc (Nat.le_refl _) (.cells #[.int .u64 (p.num : Int), .int .i64 (p.size : Int), .int .u64 (p.time : Int), .bool p.asks] 78)
  have c4 := (row_cells (h.below hb h.lt)).c4
  have c5 := (row_cells (h.below hb h.lt)).c5
  have k1 := (h1.below hb h1.lt).cell 0
  have k2 := (h2.below hb h2.lt).cell 0
  have k1' : (w.alloc (.cells #[.int .u64 (p.num : Int), .int .i64 (p.size : Int), .int .u64 (p.time : Int), .bool p.asks] 78)).cell? ⟨C1, 0, none⟩ = some (.pointer (some ⟨g, 0, none⟩)) := k1
  have k2' : (w.alloc (.cells #[.int .u64 (p.num : Int), .int .i64 (p.size : Int), .int .u64 (p.time : Int), .bool p.asks] 78)).cell? ⟨C2, 0, none⟩ = some (.int .u64 (pt : Int)) := k2
  obtain ⟨n3, hn3⟩ : ∃ n3, p.num + 3 = n3 := ⟨_, rfl⟩
  obtain ⟨t3, ht3⟩ : ∃ t3, p.time + pt = t3 := ⟨_, rfl⟩
  have e1 : IntKind.u64.wrap ((p.num : Int) + 3) = (n3 : Int) := by rw [IntKind.wrap_u64]; omega
  have e2 : IntKind.u64.wrap ((p.time : Int) + (pt : Int)) = (t3 : Int) := by rw [IntKind.wrap_u64]; omega
  obtain ⟨b1, hb1⟩ : ∃ b, decide (n3 ≤ m.front) = b := ⟨_, rfl⟩
  obtain ⟨b2, hb2⟩ : ∃ b, decide (t3 ≤ m.now) = b := ⟨_, rfl⟩
  have d1 : decide ((n3 : Int) ≤ (m.front : Int)) = b1 := by rw [← hb1]; simp
  have d2 : decide ((t3 : Int) ≤ (m.now : Int)) = b2 := by rw [← hb2]; simp
  rw [hn3, ht3, hb1, hb2]
  have HB := veil hb
  clear hb h h1 h2 k1 k2 hn3 ht3 hp ht hpt
  unfold pkC
  cases b1
  · go_enter Tryz.func93, Tryz.ntmps93
    go_wp2
    go_quiet (fail)
    go_wp2
    go_ret
    exact ⟨rfl, below_drewN HB.out _⟩
  · go_enter Tryz.func93, Tryz.ntmps93
    go_wp2
    go_quiet (fail)
    go_wp2
    go_ret
    exact ⟨rfl, below_drewN HB.out _⟩
set_option maxRecDepth 20000 in
theorem hit_any (C1 : Nat) (s : RL) (p : Lg.Pk) (w : World) (h1 : Row w C1 24 #[.slice s.a s.len s.cap]) (hs : s.Ok w) (hl : s.len ≤ 1048576) :
    Calls Tryz.prog 29 #[.agg (pkC p), .pointer (some ⟨C1, 0, none⟩)] w fun e w' => e = .returned (.bool (Rg.hasL s.l p.num)) ∧ Below w.heap.size w w' := by
  have hb := (Below.refl w.heap.size w).alloc (Nat.le_refl _) (.cells #[.int .u64 (p.num : Int), .int .i64 (p.size : Int), .int .u64 (p.time : Int), .bool p.asks] 78)
  have k1' : (w.alloc (.cells #[.int .u64 (p.num : Int), .int .i64 (p.size : Int), .int .u64 (p.time : Int), .bool p.asks] 78)).cell? ⟨C1, 0, none⟩ = some (.slice s.a s.len s.cap) := (h1.below hb h1.lt).cell 0
  have HC := veil (rg_has s p.num _ (hs.below hb) hl)
  have HB := veil hb
  clear hb h1 hs hl
  unfold pkC
  go_enter Tryz.func29, Tryz.ntmps29
  go_wp2_with fail
  refine HC.out.mono ?_
  rintro e1 w1 ⟨rfl, hb1⟩
  have HB1 := veil (HB.out.trans (hb1.mono HB.out.size))
  clear hb1 k1'
  go_wp2
  go_ret
  exact ⟨rfl, HB1.out⟩
def outW (w : World) (g e : Nat) (fv : Value) : World := ((w.alloc (.cells #[.pointer (some ⟨g, 0, none⟩)] 28)).alloc (.cells #[.int .u64 (e : Int)] 23)).alloc (.cells #[fv] 86)
set_option maxRecDepth 20000 in
theorem takeOut_in (g e F : Nat) (caps : Array Value) (w : World) :
    Calls Tryz.prog 28 #[.pointer (some ⟨g, 0, none⟩), .int .u64 (e : Int), .func (.func F) #[] caps] w fun r w' => r = .returned (.func (.func 87) #[] #[.pointer (some ⟨w.heap.size, 0, none⟩), .pointer (some ⟨w.heap.size + 1, 0, none⟩), .pointer (some ⟨w.heap.size + 2, 0, none⟩)]) ∧ w' = outW w g e (.func (.func F) #[] caps) := by
  go_enter Tryz.func28, Tryz.ntmps28
  go_wp2
  go_ret
  exact ⟨rfl, rfl⟩
theorem outW_below (w : World) (g e : Nat) (fv : Value) : Below w.heap.size w (outW w g e fv) := (((Below.refl _ w).alloc (Nat.le_refl _) _).alloc (by simp) _).alloc (by simp; omega) _
theorem outW_size (w : World) (g e : Nat) (fv : Value) : (outW w g e fv).heap.size = w.heap.size + 3 := by simp [outW]
theorem outW_tk (w : World) (g e : Nat) (fv : Value) : TkW w.heap.size (w.heap.size + 1) (w.heap.size + 2) g e fv (outW w g e fv) := by
  refine ⟨((Row.new _ _ _).alloc _).alloc _, (Row.new1 _ _ _ _).alloc _, ?_⟩
  have := Row.new ((w.alloc (.cells #[.pointer (some ⟨g, 0, none⟩)] 28)).alloc (.cells #[.int .u64 (e : Int)] 23)) 86 #[fv]
  rw [show ((w.alloc (.cells #[.pointer (some ⟨g, 0, none⟩)] 28)).alloc (.cells #[.int .u64 (e : Int)] 23)).heap.size = w.heap.size + 2 by simp] at this
  exact this
end Go.Proofs.YtohoieleakieeaaGreatDoor
