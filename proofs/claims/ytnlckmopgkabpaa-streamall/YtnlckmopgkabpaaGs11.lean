/-
  Out of PcMem, PcFuncs, PcTools, PcLoop.
-/
import Derived.Test.YtnlckmopgkabpaaGs6
import Derived.Test.YtnlckmopgkabpaaGs2
import Derived.Test.YtnlckmopgkabpaaGs7
import Derived.Test.YtnlckmopgkabpaaRows
import Derived.Maps.OwnSet
import Derived.BigQuiet
import Derived.Test.YtnlckmopgkabpaaGs3
import Derived.Test.YtnlckmopgkabpaaGsRgGuard

/-! Pieces in memory: their five cells, and the map of what is held. -/
namespace Go.Proofs.Ytnlckmopgkabpaa
open Go Go.RowKit Go.Maps

theorem law64 : Keyed Try.prog 28 := int_keyed Try.underlying28
theorem zero8 (w : World) : (zeroValue 5).run Try.prog w = .ok (.int .u8 0) w := by kernel_rfl
/-- The key of a place. -/
def kx (x : Nat) : Lit := .int .u64 (x : Int)
theorem kx_inj {x y : Nat} (h : kx x = kx y) : x = y := by unfold kx at h; injection h with _ h; omega
theorem kx_is (x : Nat) : WideAt.IsKeyLit (kx x) := trivial
theorem kx_key {x : Nat} (h : x < 18446744073709551616) : keyOf Try.prog 28 (.int .u64 (x : Int)) = some (kx x) := keyOf_int_mk Try.underlying28 (WalkArith.wf_u64 (by omega))
theorem by_wf (b : By) : (Lit.int .u8 (v8 b)).wf = true := WalkArith.wf_u8 ⟨v8_nn b, v8_le b⟩
/-- A byte that is held, or none. -/
def ob : Option By → Int
  | none => 0
  | some b => v8 b

/-- A map that holds just these bytes. -/
structure RepD (D : DataW Unit) (f : Nat → Option By) : Prop where
  no : ∀ x, x < 18446744073709551616 → f x = none → Maps.has D (kx x) = false
  yes : ∀ x b, x < 18446744073709551616 → f x = some b → Maps.has D (kx x) = true
  at_ : ∀ x b z, x < 18446744073709551616 → f x = some b → D.atKey (kx x) z = .lit (.int .u8 (v8 b))
def MapOk (w : World) (m : Nat) (f : Nat → Option By) (N : Nat) : Prop := ∃ D : DataW Unit, w.ownsMap Try.prog 28 (plainElem Try.prog 5) m N D ∧ RepD D f ∧ Maps.size D = N
theorem exact_size {w : World} {m n : Nat} {D : DataW Unit} (h : w.ownsMap Try.prog 28 (plainElem Try.prog 5) m n D) : w.ownsMap Try.prog 28 (plainElem Try.prog 5) m (Maps.size D) D := by
  obtain ⟨es, clock, h1, h2, h3, rfl⟩ := h
  exact ⟨es, clock, h1, h2, by simp [Maps.size, length_sorted], rfl⟩
theorem MapOk.lt {w : World} {m N : Nat} {f : Nat → Option By} (h : MapOk w m f N) : m < w.heap.size := by
  obtain ⟨D, h1, _, _⟩ := h
  exact h1.lt
theorem MapOk.same {w w' : World} {m N : Nat} {f : Nat → Option By} (h : MapOk w m f N) (hs : w'.heap[m]? = w.heap[m]?) : MapOk w' m f N := by
  obtain ⟨D, ⟨es, clock, h1, h2, h3, h4⟩, h5, h6⟩ := h
  exact ⟨D, ⟨es, clock, hs.trans h1, h2, h3, h4⟩, h5, h6⟩
theorem MapOk.new (w : World) : MapOk (w.alloc (.map #[] 0)) w.heap.size (fun _ => none) 0 :=
  ⟨.map [], World.ownsMap_made w _ _ _, ⟨fun _ _ _ => rfl, (fun _ _ _ h => by cases h), (fun _ _ _ _ h => by cases h)⟩, rfl⟩
set_option maxRecDepth 20000 in
theorem MapOk.look {w : World} {m N : Nat} {f : Nat → Option By} (h : MapOk w m f N) {k : Nat} (hk : k < 18446744073709551616) :
    (Instr.lookup 56 (.map (some m)) (.int .u64 (k : Int)) true).run Try.prog w = .ok (.tuple #[.int .u8 (ob (f k)), .bool (f k).isSome]) w := by
  obtain ⟨D, h1, h2, h3⟩ := h
  obtain ⟨v, ps, hrun, hv⟩ := h1.look_ok law64 Try.underlying56 (zero8 w) (zd := .lit (.int .u8 0)) (zp := []) (plainElem_int Try.underlying5 (by decide)) (kx_key hk)
  obtain ⟨c, rfl, hc, hwc⟩ := plainElem_int_inv Try.underlying5 hv
  simp only [Prod.mk.injEq] at hc
  rw [hrun]
  cases hf : f k with
  | none =>
    have h4 := h2.no k hk hf
    rw [h4]
    have h5 := hc.1
    rw [atKey_of_not_has h4] at h5
    injection h5 with h5
    injection h5 with _ h5
    subst h5
    rfl
  | some b =>
    have h4 := h2.yes k b hk hf
    rw [h4]
    have h5 := hc.1
    rw [h2.at_ k b _ hk hf] at h5
    injection h5 with h5
    injection h5 with _ h5
    subst h5
    rfl
theorem MapOk.store {w : World} {m N : Nat} {f f' : Nat → Option By} (h : MapOk w m f N) {k : Nat} (hk : k < 18446744073709551616) (hN : N < maxLen) {b : By} (hf : f k = none) (hf' : f' k = some b) (ho : ∀ y, y ≠ k → f' y = f y) :
    ∃ w', (Instr.mapUpdate 56 (.map (some m)) (.int .u64 (k : Int)) (.int .u8 (v8 b))).run Try.prog w = .ok () w' ∧ MapOk w' m f' (N + 1) ∧ w.grownBy w' (some m) := by
  obtain ⟨D, h1, h2, h3⟩ := h
  obtain ⟨w', hrun, h4, h5⟩ := h1.update law64 Try.underlying56 hN (kx_key hk) (plainElem_int Try.underlying5 (by_wf b))
  refine ⟨w', hrun, ⟨_, h4, ⟨fun x hx hn => ?_, fun x c hx hc => ?_, fun x c z hx hc => ?_⟩, ?_⟩, h5⟩
  · have e : x ≠ k := fun e => by subst e; rw [hf'] at hn; cases hn
    rw [has_put_other (fun c => e (kx_inj c))]
    exact h2.no x hx ((ho x e).symm.trans hn)
  · by_cases e : x = k
    · subst e; exact has_put_same h1.isMap (kx_is _) _
    · rw [has_put_other (fun c => e (kx_inj c))]
      exact h2.yes x c hx ((ho x e).symm.trans hc)
  · by_cases e : x = k
    · subst e
      rw [atKey_put_same h1.isMap (kx_is _)]
      rw [hf'] at hc
      cases hc
      rfl
    · rw [atKey_put_other (fun c => e (kx_inj c))]
      exact h2.at_ x c z hx ((ho x e).symm.trans hc)
  · rw [size_put (h1.tidy law64), h2.no k hk hf, h3]
    rfl
theorem MapOk.drop {w : World} {m N : Nat} {f f' : Nat → Option By} (h : MapOk w m f (N + 1)) {k : Nat} (hk : k < 18446744073709551616) {b : By} (hf : f k = some b) (hf' : f' k = none) (ho : ∀ y, y ≠ k → f' y = f y) (ty : TypeId) :
    ∃ w', (Builtin.delete_ #[56, 28] ty #[.map (some m), .int .u64 (k : Int)]).run Try.prog w = .ok (.tuple #[]) w' ∧ MapOk w' m f' N ∧ w.grownBy w' (some m) := by
  obtain ⟨D, h1, h2, h3⟩ := h
  obtain ⟨w', hrun, h4, h5⟩ := h1.drop law64 Try.underlying56 (kx_key hk) ty
  have hz : Maps.size (D.del (kx k)) = N := by
    have := size_del (k := kx k) (h1.tidy law64)
    rw [h2.yes k b hk hf, h3] at this
    simpa using this
  refine ⟨w', hrun, ⟨_, hz ▸ exact_size h4, ⟨fun x hx hn => ?_, fun x c hx hc => ?_, fun x c z hx hc => ?_⟩, hz⟩, h5.grown⟩
  · by_cases e : x = k
    · subst e; exact has_del_same
    · rw [has_del_other (fun c => e (kx_inj c))]
      exact h2.no x hx ((ho x e).symm.trans hn)
  · have e : x ≠ k := fun e => by subst e; rw [hf'] at hc; cases hc
    rw [has_del_other (fun c => e (kx_inj c))]
    exact h2.yes x c hx ((ho x e).symm.trans hc)
  · have e : x ≠ k := fun e => by subst e; rw [hf'] at hc; cases hc
    rw [atKey_del_other (fun c => e (kx_inj c))]
    exact h2.at_ x c z hx ((ho x e).symm.trans hc)
theorem MapOk.len {w : World} {m N : Nat} {f : Nat → Option By} (h : MapOk w m f N) (ty : TypeId) : (Builtin.len_ #[56] ty #[.map (some m)]).run Try.prog w = .ok (.int .i64 (N : Int)) w := by
  obtain ⟨D, h1, h2, h3⟩ := h
  rw [h1.len Try.underlying56 ty, h3]

/-- The five cells. -/
def pcC (m : Nat) (S : PS) : Array Value := #[.int .u64 (S.room : Int), .map (some m), .int .u64 (S.read : Int), .int .u64 (S.come : Int), .bool S.known]
/-- Pieces that stand so, at a block, with their map at another one. -/
structure PcOk (w : World) (g m : Nat) (S : PS) : Prop where
  row : Row w g 58 (pcC m S)
  map : MapOk w m S.f (Pc.heldN S)
  fine : S.Fine
theorem PcOk.ne {w : World} {g m : Nat} {S : PS} (h : PcOk w g m S) : g ≠ m := by
  intro e
  subst e
  have h1 := h.row
  obtain ⟨D, ⟨es, clock, h2, _, _, _⟩, _, _⟩ := h.map
  unfold Row at h1
  rw [h2] at h1
  cases h1
theorem PcOk.same {w w' : World} {g m : Nat} {S : PS} (h : PcOk w g m S) (hg : w'.heap[g]? = w.heap[g]?) (hm : w'.heap[m]? = w.heap[m]?) : PcOk w' g m S := ⟨hg.trans h.row, h.map.same hm, h.fine⟩
theorem PcOk.below {w w' : World} {g m : Nat} {S : PS} (h : PcOk w g m S) (hb : Below w.heap.size w w') : PcOk w' g m S := h.same (hb.block _ h.row.lt) (hb.block _ h.map.lt)
theorem PcOk.alloc {w : World} {g m : Nat} {S : PS} (h : PcOk w g m S) (o : Obj) : PcOk (w.alloc o) g m S := h.below ((Below.refl _ w).alloc (Nat.le_refl _) o)
theorem PcOk.cells {w : World} {g m : Nat} {S : PS} (h : PcOk w g m S) : w.cell? ⟨g, 0, none⟩ = some (.int .u64 (S.room : Int)) ∧ w.cell? ⟨g, 1, none⟩ = some (.map (some m)) ∧ w.cell? ⟨g, 2, none⟩ = some (.int .u64 (S.read : Int)) ∧ w.cell? ⟨g, 3, none⟩ = some (.int .u64 (S.come : Int)) ∧ w.cell? ⟨g, 4, none⟩ = some (.bool S.known) :=
  ⟨h.row.cell 0, h.row.cell 1, h.row.cell 2, h.row.cell 3, h.row.cell 4⟩
/-- What Put and Take write. -/
def Two (g m : Nat) (k : Nat) : Prop := k = g ∨ k = m
end Go.Proofs.Ytnlckmopgkabpaa

/-! What New, Held, Read and there answer. -/
namespace Go.Proofs.Ytnlckmopgkabpaa
open Go Go.RowKit Go.Maps

set_option maxHeartbeats 400000 in
theorem there_yes (w : World) (g m : Nat) (c1 : w.cell? ⟨g, 1, none⟩ = some (.map (some m))) :
    Calls Try.prog 22 #[.pointer (some ⟨g, 0, none⟩)] w fun e w' => e = .returned (.bool true) ∧ w' = w := by
  have hq : (binOp .neq 56 (.map (some m)) (.map none)).run Try.prog w = .ok (.bool true) w := by kernel_rfl
  go_enter Try.func22, Try.ntmps22
  go_wp2
  go_ret
  exact ⟨rfl, rfl⟩
set_option maxHeartbeats 400000 in
theorem new_any (r : Nat) (w : World) (hr : r ≤ 1048576) :
    Calls Try.prog 7 #[.int .i64 (r : Int)] w fun e w' => ∃ g m, e = .returned (.tuple #[.pointer (some ⟨g, 0, none⟩), .int .i64 0]) ∧ PcOk w' g m (Pc.newS r) ∧ w.heap.size ≤ g ∧ w.heap.size ≤ m ∧ Below w.heap.size w w' := by
  have hmm := @run_makeMap Try.prog
  have h1 : ¬ ((r : Int) < 0) := by omega
  have h2 : ¬ ((r : Int) > 1048576) := by omega
  go_enter Try.func7, Try.ntmps7
  go_wp2
  go_ret2
  have ho : PcOk ((w.alloc (.map #[] 0)).alloc (.cells #[.int .u64 (r : Int), .map (some w.heap.size), .int .u64 0, .int .u64 0, .bool false] 58)) (w.heap.size + 1) w.heap.size (Pc.newS r) := by
    refine ⟨Row.new1 w _ _ _, ?_, Pc.new_fine hr⟩
    have h0 : Pc.heldN (Pc.newS r) = 0 := Pc.cnt_zero (fun _ _ _ => rfl)
    rw [h0]
    exact (MapOk.new w).same (Below.heap_alloc _ _ _ (by simp))
  exact ⟨_, rfl, _, ho, by omega, Nat.le_refl _, ((Below.refl _ w).alloc (Nat.le_refl _) _).alloc (by simp) _⟩
end Go.Proofs.Ytnlckmopgkabpaa

/-! A drawn region whose last operation stores, with slots that held something ahead. Written by mktools9.py out of AeVals. -/
namespace Go.Proofs.Ytnlckmopgkabpaa
open Go Go.RowKit
section
variable {F : Fence} {n : Nat} {P : Program} {ops : Array Oper} {Q : Exit → Act → World → Prop} {md : Region.Mode}
theorem anyIn_store2 {a0 : Act} {w0 W0 : World} (G : Nat → World → Value → Prop) (hmono : ∀ j W W' v, Below W.heap.size W W' → G j W v → G j W' v) (ds : List Nat) (dep : Nat → List Nat) (hd : edgesB md ops dep = true) (hlen : ds.length + 1 = ops.size) (hnd : ds.Nodup)
    (hall : ∀ j, j < ds.length → j ∈ dep ds.length)
    (hW : Below w0.heap.size w0 W0) (R : (Nat → Value) → World → Prop)
    (hstep : ∀ (x : Nat → Value) (W : World) (i d : Nat), Below w0.heap.size w0 W → ds[i]? = some d → (∀ j ∈ dep i, G j W (x j)) → wpOpIn F n P ops Q i (fun a' W' => ∃ v, a' = (putsV a0 ds 0 x).put (some d) v ∧ Below W.heap.size W W' ∧ G i W' v) (putsV a0 ds 0 x) W)
    (hlast : ∀ (x : Nat → Value) (W : World), Below w0.heap.size w0 W → (∀ j, j < ds.length → G j W (x j)) → wpOpIn F n P ops Q ds.length (fun a' W' => a' = putsV a0 ds 0 x ∧ R x W') (putsV a0 ds 0 x) W)
    (hdone : ∀ x W, R x W → Q .normal (putsV a0 ds 0 x) W) : wpAnyIn F n P md ops Q ops.size (Array.replicate ops.size false) a0 W0 := by
  refine anyIn_inv2 (Inv := fun l a W => ∃ x : Nat → Value, a = putsV a0 ds 0 x ∧ ((¬ On l ds.length ∧ Below w0.heap.size w0 W ∧ ∀ j, On l j → G j W (x j)) ∨ ((∀ j, j < ds.length → On l j) ∧ On l ds.length ∧ R x W))) dep ops.size rfl hd ?_ ?_ _ _ _ _ (by simp) (by simp) ⟨_, (puts_start a0 ds 0).symm, .inl ⟨On.none _ _, hW, fun _ hj => absurd hj (On.none _ _)⟩⟩
  · rintro l a W i hl ⟨x, rfl, hJ⟩ hi hno hdep
    rcases hJ with ⟨h1, h2, h3⟩ | ⟨h1, h2, _⟩
    · by_cases hlt : i < ds.length
      · have hdi : ds[i]? = some ds[i] := List.getElem?_eq_getElem hlt
        refine wpOpIn_mono ?_ (hstep x W i ds[i] h2 hdi (fun j hj => h3 j (hdep j hj)))
        rintro a' W' ⟨v, rfl, hb, hv⟩
        refine ⟨updV x i v, ?_, .inl ⟨fun e => h1 (e.of_set (by omega)), h2.trans (hb.mono h2.size), fun j hj => ?_⟩⟩
        · rw [puts_put ds a0 0 i _ x _ hnd hdi, Nat.zero_add]
        · unfold updV
          split
          · rename_i e; rw [e]; exact hv
          · rename_i e; exact hmono _ _ _ _ hb (h3 j (hj.of_set (Ne.symm e)))
      · obtain rfl : i = ds.length := by omega
        have hon : ∀ j, j < ds.length → On l j := fun j hj => hdep j (hall j hj)
        refine wpOpIn_mono ?_ (hlast x W h2 (fun j hj => h3 j (hon j hj)))
        rintro a' W' ⟨rfl, hR⟩
        exact ⟨x, rfl, .inr ⟨fun j hj => (hon j hj).set, On.self (by omega), hR⟩⟩
    · exfalso
      by_cases hlt : i < ds.length
      · exact hno (h1 i hlt)
      · obtain rfl : i = ds.length := by omega
        exact hno h2
  · rintro l a W ⟨x, rfl, hJ⟩ hon
    rcases hJ with ⟨h1, _⟩ | ⟨_, _, hR⟩
    · exact absurd (hon ds.length (by omega)) h1
    · exact hdone x W hR
end
section
variable {P : Program} {a : Act} {o : Oper}
theorem run_cellP (ty : TypeId) (x : Operand) (p : Addr) (v : Value) (d : TypeDesc) (ho : o.op = .load ty x) (hx : a.eval x = .pointer (some p)) (hu : P.underlying ty = some d) (hd : (match d with | .struct _ | .array _ _ => true | _ => false) = false)
    (W : World) (hv : W.cell? p = some v) : (execOp a.eval o).run P W = .ok (.value v) W := by
  have hag : (isAgg ty).run P W = .ok false W := by
    unfold isAgg
    rw [Sem.run_bind, run_underlying hu W]
    cases d <;> simp_all
  unfold execOp
  simp [ho, hx, Instr.loadAt, Instr.sureAddr, loadVar, hag, hv]
theorem run_atU (t e : TypeId) (m : Nat) (x ix : Operand) (g off len cap j : Nat) (ho : o.op = .indexAddr t x ix) (hx : a.eval x = .slice (some ⟨g, off, none⟩) len cap) (hix : a.eval ix = .int .u64 (j : Int))
    (hu : P.underlying t = some (.slice e)) (hi : (P.info? e).map (·.size) = some m) (hj : j < len) (W : World) : (execOp a.eval o).run P W = .ok (.value (.pointer (some ⟨g, off + j * m, none⟩))) W := by
  have hsz : (sizeOf e).run P W = .ok m W := by
    cases hq : P.info? e with
    | none => simp [hq] at hi
    | some i =>
      have : i.size = m := by simpa [hq] using hi
      simp [sizeOf, typeInfo, hq, this]
  unfold execOp
  simp [ho, hx, hix, Instr.indexAt, asIntOf, run_underlying hu, hj, hsz, Addr.add_mid]
theorem run_atU1 (t e : TypeId) (x ix : Operand) (g off len cap j : Nat) (ho : o.op = .indexAddr t x ix) (hx : a.eval x = .slice (some ⟨g, off, none⟩) len cap) (hix : a.eval ix = .int .u64 (j : Int))
    (hu : P.underlying t = some (.slice e)) (hi : (P.info? e).map (·.size) = some 1) (hj : j < len) (W : World) : (execOp a.eval o).run P W = .ok (.value (.pointer (some ⟨g, off + j, none⟩))) W := by
  have h := run_atU (a := a) (o := o) t e 1 x ix g off len cap j ho hx hix hu hi hj W
  rw [Nat.mul_one] at h
  exact h
theorem run_update (t : TypeId) (mo ko vo : Operand) (m : Value) (k v : Value) (ho : o.op = .mapUpdate t mo ko vo) (hm : a.eval mo = m) (hk : a.eval ko = k) (hv : a.eval vo = v) (W W' : World) (he : (Instr.mapUpdate t m k v).run P W = .ok () W') : (execOp a.eval o).run P W = .ok .skip W' := by
  unfold execOp
  simp [ho, hm, hk, hv, he, Result.andThen]
end
end Go.Proofs.Ytnlckmopgkabpaa

/-! A range over a function that reads what its body writes; the body may leave the loop. Written by mkloop9.py out of RgLoop. -/
namespace Go.Proofs.Ytnlckmopgkabpaa
open Go Go.RowKit Go.Shelf

section
variable {F : Fence} {n : Nat} {P : Program}
/-- What such an iterator answers. -/
def TellsR {σ α : Type} (F : Fence) (n : Nat) (P : Program) (gf : Nat) (lb : Array Value) (encs : α → Array Value) (st : Nat → Prop) (R : σ → World → Prop) (Step : σ → α → σ → Prop) (End : σ → Prop) (s0 : σ) (w : World) : Prop :=
  ∀ (l : Nat) (J : σ → World → Prop) (Js : World → Prop) (W : World), Below w.heap.size w W → (∀ s A, J s A → R s A) → (∀ s A B, J s A → Below A.heap.size A B → J s B) → (∀ A B, Js A → Below A.heap.size A B → Js B) →
    (∀ s x s' W1, Step s x s' → J s W1 → YieldAt F (n - 1) P l (encs x) W1 fun e W' => (e = .returned (.bool true) ∧ J s' W' ∨ e = .returned (.bool false) ∧ Js W') ∧ KeepB w.heap.size st W1 W') → J s0 W →
    CallsIn F n P gf (#[.func (.yield l) #[] #[]] ++ lb) W fun e W' => (∃ v, e = .returned v) ∧ ((∃ s, End s ∧ J s W') ∨ Js W')

theorem rangeFunc_breaks {σ α : Type} {g : Operand} {ps : Array Tmp} {assign body : Code} {Q : Exit → Act → World → Prop} {a : Act} {w : World}
    (hro : F.round = none) (h1 : 1 ≤ n) {gf : Nat} {lb : Array Value} (hg : a.eval g = .func (.func gf) #[] lb) (hFg : F.fn gf) (eg : ∀ args w, (callFunc gf args).run P w = .ok (.enter gf args) w)
    {encs : α → Array Value} (hps : ∀ x, (encs x).size = ps.size) (st : Nat → Prop) (hst : ∀ k, st k → k < w.heap.size) {R : σ → World → Prop} {Step : σ → α → σ → Prop} {End : σ → Prop} {s0 : σ} (hseq : TellsR F (n - 1) P gf lb encs st R Step End s0 w) (id : Nat)
    (I : σ → World → Prop) (Is : World → Prop) (hIR : ∀ s A, I s A → R s A) (hI : ∀ s A B, I s A → KeepP (fun k => k = w.heap.size + 1) A B → I s B) (hIs : ∀ A B, Is A → KeepP (fun k => k = w.heap.size + 1) A B → Is B) (h0 : I s0 w)
    (mk : α → Act)
    (hassign : ∀ (l : Nat) (x : α) (W : World) (K : Act → World → Prop), K (mk x) W →
      assign.wpIn (F.inRound l) (n - 1 - 1) P (Exit.then K (fun _ _ _ => False)) { tmps := (ps.zip (encs x)).foldl (fun t (p, v) => t.setIfInBounds p v) a.tmps, defers := [] } W)
    (hbody : ∀ (l : Nat) (s : σ) (x : α) (s' : σ) (W : World), Step s x s' → I s W → w.heap.size + 2 ≤ W.heap.size →
      body.wpIn (F.inRound l) (n - 1 - 1) P (fun e _ W' => KeepB (w.heap.size + 2) st W W' ∧ (e = .normal ∧ I s' W' ∨ e = .exit id ∧ Is W')) (mk x) W)
    (hdone : ∀ (D : Nat) (s : σ) (W : World), D = w.heap.size → End s → I s W → W.heap[D]? = some (.deferred (some [])) → Q .normal { a with defers := { target := .collected D, args := #[] } :: a.defers } W)
    (hstop : ∀ (D : Nat) (W : World), D = w.heap.size → Is W → W.heap[D]? = some (.deferred (some [])) → Q (.exit id) { a with defers := { target := .collected D, args := #[] } :: a.defers } W) :
    (Code.rangeFunc g ps assign body).wpIn F n P Q a w := by
  refine wpIn_rangeFunc (fun fn hfn => ?_)
  rw [hro]
  obtain ⟨r0, hr0⟩ : ∃ r0 : Loop, r0 = { state := .ready, pending := none, fn, tmps := a.tmps, params := ps, assign, body, defers := w.heap.size } := ⟨_, rfl⟩
  obtain ⟨W0, hW0⟩ : ∃ W0, W0 = (w.alloc (.deferred (some []))).alloc (.loop r0) := ⟨_, rfl⟩
  have hsz : W0.heap.size = w.heap.size + 2 := by rw [hW0]; simp
  have hD0 : W0.heap[w.heap.size]? = some (.deferred (some [])) := by rw [hW0]; exact (Below.heap_alloc _ _ _ (by simp)).trans (heap_alloc_new w _)
  have hL0 : W0.heap[w.heap.size + 1]? = some (.loop r0) := by
    have := heap_alloc_new (w.alloc (.deferred (some []))) (.loop r0)
    rw [World.size_alloc] at this
    rw [hW0]; exact this
  have hbel0 : Below w.heap.size w W0 := by rw [hW0]; exact ((Below.refl _ w).alloc (Nat.le_refl _) _).alloc (by simp) _
  have kput : ∀ (W : World) (o : Obj), KeepP (fun k => k = w.heap.size + 1) W (W.putObj (w.heap.size + 1) o) := fun W o => ⟨rfl, rfl, rfl, by rw [World.putObj_size]; exact Nat.le_refl _, fun k _ hk => World.putObj_heap_other hk⟩
  refine ⟨w.heap.size + 1, [{ target := .collected w.heap.size, args := #[] }], W0, { target := .fn (.func gf) lb, args := #[.func (.yield (w.heap.size + 1)) #[] #[]] }, W0, gf, #[.func (.yield (w.heap.size + 1)) #[] #[]] ++ lb, W0, ?_, ?_, ?_, ?_, fun _ => h1, ?_⟩
  · rw [hW0, hr0]; exact run_enterLoop_outer _ _ _ _ _
  · simp only [resolve, hg]
    simp [go_sem]
  · intro f' hf'
    simp [Target.leads] at hf'
    subst hf'
    exact hFg
  · simp [invoke, go_sem, eg]
  refine (hseq (w.heap.size + 1) (fun s W => I s W ∧ W.heap[w.heap.size]? = some (.deferred (some [])) ∧ W.heap[w.heap.size + 1]? = some (.loop r0))
    (fun W => Is W ∧ W.heap[w.heap.size]? = some (.deferred (some [])) ∧ W.heap[w.heap.size + 1]? = some (.loop { r0 with state := .done, pending := some (.exit id) })) W0 hbel0 (fun s A h => hIR s A h.1) ?_ ?_ ?_ ⟨hI _ _ _ h0 (KeepP.of_below hbel0), hD0, hL0⟩).mono ?_
  · rintro s A B ⟨hi, hd, hl⟩ hb
    have := (Array.getElem?_eq_some_iff.1 hl).1
    exact ⟨hI _ _ _ hi (KeepP.of_below hb), (hb.block _ (by omega)).trans hd, (hb.block _ (by omega)).trans hl⟩
  · rintro A B ⟨hi, hd, hl⟩ hb
    have := (Array.getElem?_eq_some_iff.1 hl).1
    exact ⟨hIs _ _ hi (KeepP.of_below hb), (hb.block _ (by omega)).trans hd, (hb.block _ (by omega)).trans hl⟩
  · rintro s x s' W hstep ⟨hi, hd, hl⟩
    have hlt : w.heap.size + 1 < W.heap.size := (Array.getElem?_eq_some_iff.1 hl).1
    have hy := run_yield (P := P) (args := encs x) hl (by rw [hr0]; exact hps x)
    rw [hr0] at hy
    refine ⟨fn, _, assign, body, hy, roundIn_of_wpIn hfn (hassign _ x W _ ?_)⟩
    refine ⟨_, run_beginRound hl (by rw [hr0]), ?_⟩
    refine wpIn_mono (hbody _ s x s' _ hstep (hI _ _ _ hi (kput W _)) (by rw [World.putObj_size]; omega)) ?_
    rintro e a3 W3 ⟨hk3, hcase⟩
    have hl3 : W3.heap[w.heap.size + 1]? = some (.loop { r0 with state := .busy }) := (hk3.block _ (by omega) (fun e => by have := hst _ e; omega)).trans (World.putObj_heap_same (by omega))
    have hd3 : W3.heap[w.heap.size]? = some (.deferred (some [])) := (hk3.block _ (by omega) (fun e => by have := hst _ e; omega)).trans ((World.putObj_heap_other (by omega)).trans hd)
    have hs3 : W.heap.size ≤ W3.heap.size := by have := hk3.size; rw [World.putObj_size] at this; exact this
    have keep : ∀ o, KeepB w.heap.size st W (W3.putObj (w.heap.size + 1) o) := fun o => by
      refine ⟨?_, ?_, ?_, ?_, fun k hk hks => ?_⟩
      · exact hk3.os
      · exact hk3.tape
      · exact hk3.output
      · rw [World.putObj_size]; omega
      · rw [World.putObj_heap_other (by omega), hk3.block k (by omega) hks, World.putObj_heap_other (by omega)]
    rcases hcase with ⟨rfl, hi3⟩ | ⟨rfl, hi3⟩
    · have he := run_endRound (P := P) none hl3
      have hr : ({ { r0 with state := .busy } with state := if (none : Option Code).isNone then .ready else .done, pending := none } : Loop) = r0 := by rw [hr0]; rfl
      rw [hr] at he
      exact ⟨_, _, he, .inl ⟨rfl, hI _ _ _ hi3 (kput _ _), (World.putObj_heap_other (by omega)).trans hd3, World.putObj_heap_same (by omega)⟩, keep _⟩
    · have he := run_endRound (P := P) (some (.exit id)) hl3
      have hr : ({ { r0 with state := .busy } with state := if (some (Code.exit id) : Option Code).isNone then .ready else .done, pending := some (.exit id) } : Loop) = { r0 with state := .done, pending := some (.exit id) } := by rw [hr0]; rfl
      rw [hr] at he
      exact ⟨_, _, he, .inr ⟨rfl, hIs _ _ hi3 (kput _ _), (World.putObj_heap_other (by omega)).trans hd3, World.putObj_heap_same (by omega)⟩, keep _⟩
  · rintro e W2 ⟨⟨v, rfl⟩, ⟨s, hend, hi, hd, hl⟩ | ⟨hi, hd, hl⟩⟩
    · have he := run_endLoop (P := P) hl (by rw [hr0]; simp)
      rw [show r0.pending = none by rw [hr0]] at he
      exact ⟨none, _, he, hdone w.heap.size s _ rfl hend (hI _ _ _ hi (kput _ _)) ((World.putObj_heap_other (by omega)).trans hd)⟩
    · have he := run_endLoop (P := P) hl (by simp)
      exact ⟨some (.exit id), _, he, wpIn_exit (hstop w.heap.size _ rfl (hIs _ _ hi (kput _ _)) ((World.putObj_heap_other (by omega)).trans hd))⟩
end
end Go.Proofs.Ytnlckmopgkabpaa
