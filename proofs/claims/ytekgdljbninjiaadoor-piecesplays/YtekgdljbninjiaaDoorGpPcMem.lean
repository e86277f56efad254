/-
  Pieces in memory: their five cells, and the map of what is held.
-/
import Derived.Test.YtekgdljbninjiaaDoorGpPcPlain
import Derived.Test.YtekgdljbninjiaaDoorGp3
import Derived.Test.YtekgdljbninjiaaDoorRows
import Derived.Maps.OwnSet
namespace Go.Proofs.YtekgdljbninjiaaDoor
open Go Go.RowKit Go.Maps

theorem law64 : Keyed Tryd.prog 31 := int_keyed Tryd.underlying31
theorem zero8 (w : World) : (zeroValue 5).run Tryd.prog w = .ok (.int .u8 0) w := by kernel_rfl
/-- The key of a place. -/
def kx (x : Nat) : Lit := .int .u64 (x : Int)
theorem kx_inj {x y : Nat} (h : kx x = kx y) : x = y := by unfold kx at h; injection h with _ h; omega
theorem kx_is (x : Nat) : WideAt.IsKeyLit (kx x) := trivial
theorem kx_key {x : Nat} (h : x < 18446744073709551616) : keyOf Tryd.prog 31 (.int .u64 (x : Int)) = some (kx x) := keyOf_int_mk Tryd.underlying31 (WalkArith.wf_u64 (by omega))
theorem by_wf (b : By) : (Lit.int .u8 (v8 b)).wf = true := WalkArith.wf_u8 ⟨v8_nn b, v8_le b⟩
/-- A byte that is held, or none. -/
def ob : Option By → Int
  | none => 0
  | some b => v8 b

/-- A map that holds just these bytes. -/
structure RepD (D : DataW Unit) (f : Nat → Option By) : Prop where
  no : ∀ x, x < 18446744073709551616 → f x = none → Maps.has D (kx x) = false
  yes : ∀ x b, x < 18446744073709551616 → f x = some b → Maps.has D (kx x) = true
  at_ : ∀ x b z, x < 18446744073709551616 → f x = some b → D.atKey (kx x) z = .lit (.int .u8 (v8 b))
def MapOk (w : World) (m : Nat) (f : Nat → Option By) (N : Nat) : Prop := ∃ D : DataW Unit, w.ownsMap Tryd.prog 31 (plainElem Tryd.prog 5) m N D ∧ RepD D f ∧ Maps.size D = N
theorem exact_size {w : World} {m n : Nat} {D : DataW Unit} (h : w.ownsMap Tryd.prog 31 (plainElem Tryd.prog 5) m n D) : w.ownsMap Tryd.prog 31 (plainElem Tryd.prog 5) m (Maps.size D) D := by
  obtain ⟨es, clock, h1, h2, h3, rfl⟩ := h
  exact ⟨es, clock, h1, h2, by simp [Maps.size, length_sorted], rfl⟩
theorem MapOk.lt {w : World} {m N : Nat} {f : Nat → Option By} (h : MapOk w m f N) : m < w.heap.size := by
  obtain ⟨D, h1, _, _⟩ := h
  exact h1.lt
theorem MapOk.same {w w' : World} {m N : Nat} {f : Nat → Option By} (h : MapOk w m f N) (hs : w'.heap[m]? = w.heap[m]?) : MapOk w' m f N := by
  obtain ⟨D, ⟨es, clock, h1, h2, h3, h4⟩, h5, h6⟩ := h
  exact ⟨D, ⟨es, clock, hs.trans h1, h2, h3, h4⟩, h5, h6⟩
theorem MapOk.new (w : World) : MapOk (w.alloc (.map #[] 0)) w.heap.size (fun _ => none) 0 :=
  ⟨.map [], World.ownsMap_made w _ _ _, ⟨fun _ _ _ => rfl, (fun _ _ _ h => by cases h), (fun _ _ _ _ h => by cases h)⟩, rfl⟩
set_option maxRecDepth 20000 in
theorem MapOk.look {w : World} {m N : Nat} {f : Nat → Option By} (h : MapOk w m f N) {k : Nat} (hk : k < 18446744073709551616) :
    (Instr.lookup 32 (.map (some m)) (.int .u64 (k : Int)) true).run Tryd.prog w = .ok (.tuple #[.int .u8 (ob (f k)), .bool (f k).isSome]) w := by
  obtain ⟨D, h1, h2, h3⟩ := h
  obtain ⟨v, ps, hrun, hv⟩ := h1.look_ok law64 Tryd.underlying32 (zero8 w) (zd := .lit (.int .u8 0)) (zp := []) (plainElem_int Tryd.underlying5 (by decide)) (kx_key hk)
  obtain ⟨c, rfl, hc, hwc⟩ := plainElem_int_inv Tryd.underlying5 hv
  simp only [Prod.mk.injEq] at hc
  rw [hrun]
  cases hf : f k with
  | none =>
    have h4 := h2.no k hk hf
    rw [h4]
    have h5 := hc.1
    rw [atKey_of_not_has h4] at h5
    injection h5 with h5
    injection h5 with _ h5
    subst h5
    rfl
  | some b =>
    have h4 := h2.yes k b hk hf
    rw [h4]
    have h5 := hc.1
    rw [h2.at_ k b _ hk hf] at h5
    injection h5 with h5
    injection h5 with _ h5
    subst h5
    rfl
theorem MapOk.store {w : World} {m N : Nat} {f f' : Nat → Option By} (h : MapOk w m f N) {k : Nat} (hk : k < 18446744073709551616) (hN : N < maxLen) {b : By} (hf : f k = none) (hf' : f' k = some b) (ho : ∀ y, y ≠ k → f' y = f y) :
    ∃ w', (Instr.mapUpdate 32 (.map (some m)) (.int .u64 (k : Int)) (.int .u8 (v8 b))).run Tryd.prog w = .ok () w' ∧ MapOk w' m f' (N + 1) ∧ w.grownBy w' (some m) := by
  obtain ⟨D, h1, h2, h3⟩ := h
  obtain ⟨w', hrun, h4, h5⟩ := h1.update law64 Tryd.underlying32 hN (kx_key hk) (plainElem_int Tryd.underlying5 (by_wf b))
  refine ⟨w', hrun, ⟨_, h4, ⟨fun x hx hn => ?_, fun x c hx hc => ?_, fun x c z hx hc => ?_⟩, ?_⟩, h5⟩
  · have e : x ≠ k := fun e => by subst e; rw [hf'] at hn; cases hn
    rw [has_put_other (fun c => e (kx_inj c))]
    exact h2.no x hx ((ho x e).symm.trans hn)
  · by_cases e : x = k
    · subst e; exact has_put_same h1.isMap (kx_is _) _
    · rw [has_put_other (fun c => e (kx_inj c))]
      exact h2.yes x c hx ((ho x e).symm.trans hc)
  · by_cases e : x = k
    · subst e
      rw [atKey_put_same h1.isMap (kx_is _)]
      rw [hf'] at hc
      cases hc
      rfl
    · rw [atKey_put_other (fun c => e (kx_inj c))]
      exact h2.at_ x c z hx ((ho x e).symm.trans hc)
  · rw [size_put (h1.tidy law64), h2.no k hk hf, h3]
    rfl
theorem MapOk.drop {w : World} {m N : Nat} {f f' : Nat → Option By} (h : MapOk w m f (N + 1)) {k : Nat} (hk : k < 18446744073709551616) {b : By} (hf : f k = some b) (hf' : f' k = none) (ho : ∀ y, y ≠ k → f' y = f y) (ty : TypeId) :
    ∃ w', (Builtin.delete_ #[32, 31] ty #[.map (some m), .int .u64 (k : Int)]).run Tryd.prog w = .ok (.tuple #[]) w' ∧ MapOk w' m f' N ∧ w.grownBy w' (some m) := by
  obtain ⟨D, h1, h2, h3⟩ := h
  obtain ⟨w', hrun, h4, h5⟩ := h1.drop law64 Tryd.underlying32 (kx_key hk) ty
  have hz : Maps.size (D.del (kx k)) = N := by
    have := size_del (k := kx k) (h1.tidy law64)
    rw [h2.yes k b hk hf, h3] at this
    simpa using this
  refine ⟨w', hrun, ⟨_, hz ▸ exact_size h4, ⟨fun x hx hn => ?_, fun x c hx hc => ?_, fun x c z hx hc => ?_⟩, hz⟩, h5.grown⟩
  · by_cases e : x = k
    · subst e; exact has_del_same
    · rw [has_del_other (fun c => e (kx_inj c))]
      exact h2.no x hx ((ho x e).symm.trans hn)
  · have e : x ≠ k := fun e => by subst e; rw [hf'] at hc; cases hc
    rw [has_del_other (fun c => e (kx_inj c))]
    exact h2.yes x c hx ((ho x e).symm.trans hc)
  · have e : x ≠ k := fun e => by subst e; rw [hf'] at hc; cases hc
    rw [atKey_del_other (fun c => e (kx_inj c))]
    exact h2.at_ x c z hx ((ho x e).symm.trans hc)
theorem MapOk.len {w : World} {m N : Nat} {f : Nat → Option By} (h : MapOk w m f N) (ty : TypeId) : (Builtin.len_ #[32] ty #[.map (some m)]).run Tryd.prog w = .ok (.int .i64 (N : Int)) w := by
  obtain ⟨D, h1, h2, h3⟩ := h
  rw [h1.len Tryd.underlying32 ty, h3]

/-- The five cells. -/
def pcC (m : Nat) (S : PS) : Array Value := #[.int .u64 (S.room : Int), .map (some m), .int .u64 (S.read : Int), .int .u64 (S.come : Int), .bool S.known]
/-- Pieces that stand so, at a block, with their map at another one. -/
structure PcOk (w : World) (g m : Nat) (S : PS) : Prop where
  row : Row w g 34 (pcC m S)
  map : MapOk w m S.f (Pc.heldN S)
  fine : S.Fine
theorem PcOk.ne {w : World} {g m : Nat} {S : PS} (h : PcOk w g m S) : g ≠ m := by
  intro e
  subst e
  have h1 := h.row
  obtain ⟨D, ⟨es, clock, h2, _, _, _⟩, _, _⟩ := h.map
  unfold Row at h1
  rw [h2] at h1
  cases h1
theorem PcOk.same {w w' : World} {g m : Nat} {S : PS} (h : PcOk w g m S) (hg : w'.heap[g]? = w.heap[g]?) (hm : w'.heap[m]? = w.heap[m]?) : PcOk w' g m S := ⟨hg.trans h.row, h.map.same hm, h.fine⟩
theorem PcOk.below {w w' : World} {g m : Nat} {S : PS} (h : PcOk w g m S) (hb : Below w.heap.size w w') : PcOk w' g m S := h.same (hb.block _ h.row.lt) (hb.block _ h.map.lt)
theorem PcOk.alloc {w : World} {g m : Nat} {S : PS} (h : PcOk w g m S) (o : Obj) : PcOk (w.alloc o) g m S := h.below ((Below.refl _ w).alloc (Nat.le_refl _) o)
theorem PcOk.cells {w : World} {g m : Nat} {S : PS} (h : PcOk w g m S) : w.cell? ⟨g, 0, none⟩ = some (.int .u64 (S.room : Int)) ∧ w.cell? ⟨g, 1, none⟩ = some (.map (some m)) ∧ w.cell? ⟨g, 2, none⟩ = some (.int .u64 (S.read : Int)) ∧ w.cell? ⟨g, 3, none⟩ = some (.int .u64 (S.come : Int)) ∧ w.cell? ⟨g, 4, none⟩ = some (.bool S.known) :=
  ⟨h.row.cell 0, h.row.cell 1, h.row.cell 2, h.row.cell 3, h.row.cell 4⟩
/-- What Put and Take write. -/
def Two (g m : Nat) (k : Nat) : Prop := k = g ∨ k = m
end Go.Proofs.YtekgdljbninjiaaDoor
