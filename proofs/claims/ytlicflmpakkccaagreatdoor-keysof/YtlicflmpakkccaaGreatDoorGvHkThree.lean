/-
  A region that draws its order and holds a call, an append to what it answered, a call of that, one behind the other, and makes a row of its own, whenever.
-/
import Derived.Test.YtlicflmpakkccaaGreatDoorGvHkTwo
namespace Go.Proofs.YtlicflmpakkccaaGreatDoor
open Go Go.RowKit

def rdThree (i1 i3 i4 i8 : Nat) (c1 c3 c8 : Bool) : List Nat := (if c1 then (if c3 then [i4] else [i3]) else [i1]) ++ (if c8 then [] else [i8])

theorem three_one {P : Program} {ops : Array Oper} {Q : Exit → Act → World → Prop} {S : World → Prop} (B : Nat) (T : TypeId) (z : Array Value) (i1 i3 i4 i8 : Nat)
    (tm : Value → Value → Value → Value → Act) (l : Bool → Bool → Bool → Bool → Array Bool) (I1 I2 : Value → World → Prop) (R : Value)
    (hrd : ∀ c1 c3 c8, (c3 = true → c1 = true) → Region.ready .any ops (l c1 c3 false c8) = rdThree i1 i3 i4 i8 c1 c3 c8)
    (l1 : ∀ c8, (l false false false c8).setIfInBounds i1 true = l true false false c8) (l3 : ∀ c8, (l true false false c8).setIfInBounds i3 true = l true true false c8)
    (l4 : ∀ c8, (l true true false c8).setIfInBounds i4 true = l true true true c8) (l8 : ∀ c1 c3, (l c1 c3 false false).setIfInBounds i8 true = l c1 c3 false true)
    (call1 : ∀ v8 W K, S W → (∀ v W', Below W.heap.size W W' → I1 v W' → (∀ q, v.ownBlock = some q → W.heap.size ≤ q) → K (tm v8 v undef undef) W') → wpOp P ops Q i1 K (tm v8 undef undef undef) W)
    (app : ∀ v8 v W K, S W → I1 v W → (∀ u W', S W' → I2 u W' → W.heap.size ≤ W'.heap.size → (∀ k, k < W.heap.size → v.ownBlock ≠ some k → W'.heap[k]? = W.heap[k]?) → K (tm v8 v u undef) W') → wpOp P ops Q i3 K (tm v8 v undef undef) W)
    (call4 : ∀ v8 v u W K, S W → I2 u W → (∀ W', Below W.heap.size W W' → K (tm v8 v u R) W') → wpOp P ops Q i4 K (tm v8 v u undef) W)
    (alloc8 : ∀ v u r W K, K (tm (ptr W.heap.size) v u r) (W.alloc (.cells z T)) → wpOp P ops Q i8 K (tm undef v u r) W)
    (hlt : ∀ v W, I1 v W → ∀ q, v.ownBlock = some q → q < W.heap.size)
    (hS : ∀ W W', S W → Below W.heap.size W W' → S W') (hI1 : ∀ v W W', I1 v W → Below W.heap.size W W' → I1 v W') (hI2 : ∀ v W W', I2 v W → Below W.heap.size W W' → I2 v W')
    (hB : ∀ W, S W → B ≤ W.heap.size) (f : Nat)
    (hend1 : ∀ g8 v u W, S W → Row W g8 T z → B ≤ g8 → wpAnyH P .any ops Q S f (l true true true true) (tm (ptr g8) v u R) W)
    (hend0 : ∀ v u W, S W → wpAnyH P .any ops Q S (f + 1) (l true true true false) (tm undef v u R) W) :
    ∀ W, S W → wpAnyH P .any ops Q S (f + 4) (l false false false false) (tm undef undef undef undef) W := by
  have AL : ∀ (W : World) o, Below W.heap.size W (W.alloc o) := fun W o => (Below.refl _ W).alloc (Nat.le_refl _) o
  have C1 : ∀ g8 v u W, S W → I2 u W → Row W g8 T z → B ≤ g8 → wpAnyH P .any ops Q S (f + 1) (l true true false true) (tm (ptr g8) v u undef) W := by
    intro g8 v u W hSW hi h8 b8
    refine wpAnyH_all (hrd true true true (fun h => rfl)) (by simp [rdThree]) (fun j hj => ?_)
    obtain rfl : j = i4 := by simpa [rdThree] using hj
    refine call4 _ _ _ _ _ hSW hi (fun W' hb => ⟨hS _ _ hSW hb, ?_⟩)
    rw [l4]
    exact hend1 _ _ _ _ (hS _ _ hSW hb) (h8.below hb h8.lt) b8
  have C0 : ∀ v u W, S W → I2 u W → wpAnyH P .any ops Q S (f + 1 + 1) (l true true false false) (tm undef v u undef) W := by
    intro v u W hSW hi
    refine wpAnyH_all (hrd true true false (fun h => rfl)) (by simp [rdThree]) (fun j hj => ?_)
    rcases (by simpa [rdThree] using hj : j = i4 ∨ j = i8) with rfl | rfl
    · refine call4 _ _ _ _ _ hSW hi (fun W' hb => ⟨hS _ _ hSW hb, ?_⟩)
      rw [l4]
      exact hend0 _ _ _ (hS _ _ hSW hb)
    · refine alloc8 _ _ _ _ _ ⟨hS _ _ hSW (AL _ _), ?_⟩
      rw [l8]
      exact C1 _ _ _ _ (hS _ _ hSW (AL _ _)) (hI2 _ _ _ hi (AL _ _)) (Row.new _ _ _) (hB _ hSW)
  have B1 : ∀ g8 v W, S W → I1 v W → Row W g8 T z → B ≤ g8 → v.ownBlock ≠ some g8 → wpAnyH P .any ops Q S (f + 1 + 1) (l true false false true) (tm (ptr g8) v undef undef) W := by
    intro g8 v W hSW hi h8 b8 hne
    refine wpAnyH_all (hrd true false true (fun h => rfl)) (by simp [rdThree]) (fun j hj => ?_)
    obtain rfl : j = i3 := by simpa [rdThree] using hj
    refine app _ _ _ _ hSW hi (fun u W' hS' hi' _ hk => ⟨hS', ?_⟩)
    rw [l3]
    exact C1 _ _ _ _ hS' hi' ((hk g8 h8.lt hne).trans h8) b8
  have B0 : ∀ v W, S W → I1 v W → wpAnyH P .any ops Q S (f + 1 + 1 + 1) (l true false false false) (tm undef v undef undef) W := by
    intro v W hSW hi
    refine wpAnyH_all (hrd true false false (fun h => rfl)) (by simp [rdThree]) (fun j hj => ?_)
    rcases (by simpa [rdThree] using hj : j = i3 ∨ j = i8) with rfl | rfl
    · refine app _ _ _ _ hSW hi (fun u W' hS' hi' _ _ => ⟨hS', ?_⟩)
      rw [l3]
      exact C0 _ _ _ hS' hi'
    · refine alloc8 _ _ _ _ _ ⟨hS _ _ hSW (AL _ _), ?_⟩
      rw [l8]
      exact B1 _ _ _ (hS _ _ hSW (AL _ _)) (hI1 _ _ _ hi (AL _ _)) (Row.new _ _ _) (hB _ hSW) (fun e => Nat.lt_irrefl _ (hlt _ _ hi _ e))
  have A1 : ∀ g8 W, S W → Row W g8 T z → B ≤ g8 → wpAnyH P .any ops Q S (f + 1 + 1 + 1) (l false false false true) (tm (ptr g8) undef undef undef) W := by
    intro g8 W hSW h8 b8
    refine wpAnyH_all (hrd false false true (fun h => by cases h)) (by simp [rdThree]) (fun j hj => ?_)
    obtain rfl : j = i1 := by simpa [rdThree] using hj
    refine call1 _ _ _ hSW (fun v W' hb hi hq => ⟨hS _ _ hSW hb, ?_⟩)
    rw [l1]
    exact B1 _ _ _ (hS _ _ hSW hb) hi (h8.below hb h8.lt) b8 (fun e => by have := hq _ e; have := h8.lt; omega)
  intro W hSW
  refine wpAnyH_all (hrd false false false (fun h => by cases h)) (by simp [rdThree]) (fun j hj => ?_)
  rcases (by simpa [rdThree] using hj : j = i1 ∨ j = i8) with rfl | rfl
  · refine call1 _ _ _ hSW (fun v W' hb hi _ => ⟨hS _ _ hSW hb, ?_⟩)
    rw [l1]
    exact B0 _ _ (hS _ _ hSW hb) hi
  · refine alloc8 _ _ _ _ _ ⟨hS _ _ hSW (AL _ _), ?_⟩
    rw [l8]
    exact A1 _ _ (hS _ _ hSW (AL _ _)) (Row.new _ _ _) (hB _ hSW)

section
variable {P : Program} {a : Act} {w : World}
theorem exec_append {o : Oper} (s x : Operand) (t1 t2 : TypeId) (ho : o.op = .call { callee := .builtin .append, args := #[s, x], argTypes := #[t1, t2] }) (vs vx : Value) (hs : a.eval s = vs) (hx : a.eval x = vx)
    (v : Value) (w' : World) (hr : (Builtin.append_ #[t1, t2] o.type #[vs, vx]).run P w = .ok v w') : (execOp a.eval o).run P w = .ok (.value v) w' := by
  unfold execOp
  simp only [ho, resolve, invoke, builtin, Sem.run_bind, Sem.run_pure, Result.andThen_ok, List.map_toArray, List.map_cons, List.map_nil, hs, hx, hr]
end
/-- Bytes that lie in a row are appended to a row of the call's own: the run. -/
theorem append_row (w : World) (base : Nat) (ty : TypeId) (v : Value) (n : Nat) (xs : List By) (hown : w.ownsRow base 5 1 v n (vb xs)) (g m : Nat) (t : TypeId) (b : List By) (hb : b.length = m) (hg : Row w g t (bs b)) (hl : n + m ≤ 8388608) (hbase : base ≤ w.heap.size) :
    ∃ v' w', (Builtin.append_ #[22, 22] ty #[v, .slice (some ⟨g, 0, none⟩) m m]).run Tryz.prog w = .ok v' w' ∧ w'.ownsRow base 5 1 v' (n + m) (vb (xs ++ b)) ∧ w.grownBy w' v.ownBlock := by
  obtain ⟨i0, hi, hz0, hz1, hz2⟩ := info_parts (P := Tryz.prog) (e := 5) (z := .int .u8 0) (size := 1) (bytes := 1) (by kernel_rfl)
  obtain ⟨v', w', h1, h2, h3, _⟩ := run_append_own (P := Tryz.prog) w base 22 ty 5 i0 (.int .u8 0) 1 1 Tryz.underlying22 hi hz0 hz1 hz2 rfl (by decide) v n (vb xs) hown ⟨g, 0, none⟩ m m (vb b) (by rw [vb_length, hb, Nat.mul_one])
    (fun j u hj => by
      obtain ⟨h1, rfl⟩ := vb_get' b j u hj
      rw [add_off]
      exact hg.cellB h1) (vb_one b) (by unfold maxLen; omega) (by omega) hbase
  rw [← vb_append] at h2
  exact ⟨v', w', h1, h2, h3⟩
end Go.Proofs.YtlicflmpakkccaaGreatDoor
