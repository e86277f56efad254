/-
  A drawn region whose last operation stores, with slots that held something ahead. Written by mktools9.py out of AeVals.
-/
import Derived.Test.YtmekhhabkljffaaAeVals2
import Derived.Test.YtmekhhabkljffaaRgGuard
namespace Go.Proofs.Ytmekhhabkljffaa
open Go Go.RowKit
section
variable {F : Fence} {n : Nat} {P : Program} {ops : Array Oper} {Q : Exit → Act → World → Prop} {md : Region.Mode}
theorem anyIn_store2 {a0 : Act} {w0 W0 : World} (G : Nat → World → Value → Prop) (hmono : ∀ j W W' v, Below W.heap.size W W' → G j W v → G j W' v) (ds : List Nat) (dep : Nat → List Nat) (hd : edgesB md ops dep = true) (hlen : ds.length + 1 = ops.size) (hnd : ds.Nodup)
    (hall : ∀ j, j < ds.length → j ∈ dep ds.length)
    (hW : Below w0.heap.size w0 W0) (R : (Nat → Value) → World → Prop)
    (hstep : ∀ (x : Nat → Value) (W : World) (i d : Nat), Below w0.heap.size w0 W → ds[i]? = some d → (∀ j ∈ dep i, G j W (x j)) → wpOpIn F n P ops Q i (fun a' W' => ∃ v, a' = (putsV a0 ds 0 x).put (some d) v ∧ Below W.heap.size W W' ∧ G i W' v) (putsV a0 ds 0 x) W)
    (hlast : ∀ (x : Nat → Value) (W : World), Below w0.heap.size w0 W → (∀ j, j < ds.length → G j W (x j)) → wpOpIn F n P ops Q ds.length (fun a' W' => a' = putsV a0 ds 0 x ∧ R x W') (putsV a0 ds 0 x) W)
    (hdone : ∀ x W, R x W → Q .normal (putsV a0 ds 0 x) W) : wpAnyIn F n P md ops Q ops.size (Array.replicate ops.size false) a0 W0 := by
  refine anyIn_inv2 (Inv := fun l a W => ∃ x : Nat → Value, a = putsV a0 ds 0 x ∧ ((¬ On l ds.length ∧ Below w0.heap.size w0 W ∧ ∀ j, On l j → G j W (x j)) ∨ ((∀ j, j < ds.length → On l j) ∧ On l ds.length ∧ R x W))) dep ops.size rfl hd ?_ ?_ _ _ _ _ (by simp) (by simp) ⟨_, (puts_start a0 ds 0).symm, .inl ⟨On.none _ _, hW, fun _ hj => absurd hj (On.none _ _)⟩⟩
  · rintro l a W i hl ⟨x, rfl, hJ⟩ hi hno hdep
    rcases hJ with ⟨h1, h2, h3⟩ | ⟨h1, h2, _⟩
    · by_cases hlt : i < ds.length
      · have hdi : ds[i]? = some ds[i] := List.getElem?_eq_getElem hlt
        refine wpOpIn_mono ?_ (hstep x W i ds[i] h2 hdi (fun j hj => h3 j (hdep j hj)))
        rintro a' W' ⟨v, rfl, hb, hv⟩
        refine ⟨updV x i v, ?_, .inl ⟨fun e => h1 (e.of_set (by omega)), h2.trans (hb.mono h2.size), fun j hj => ?_⟩⟩
        · rw [puts_put ds a0 0 i _ x _ hnd hdi, Nat.zero_add]
        · unfold updV
          split
          · rename_i e; rw [e]; exact hv
          · rename_i e; exact hmono _ _ _ _ hb (h3 j (hj.of_set (Ne.symm e)))
      · obtain rfl : i = ds.length := by omega
        have hon : ∀ j, j < ds.length → On l j := fun j hj => hdep j (hall j hj)
        refine wpOpIn_mono ?_ (hlast x W h2 (fun j hj => h3 j (hon j hj)))
        rintro a' W' ⟨rfl, hR⟩
        exact ⟨x, rfl, .inr ⟨fun j hj => (hon j hj).set, On.self (by omega), hR⟩⟩
    · exfalso
      by_cases hlt : i < ds.length
      · exact hno (h1 i hlt)
      · obtain rfl : i = ds.length := by omega
        exact hno h2
  · rintro l a W ⟨x, rfl, hJ⟩ hon
    rcases hJ with ⟨h1, _⟩ | ⟨_, _, hR⟩
    · exact absurd (hon ds.length (by omega)) h1
    · exact hdone x W hR
end
section
variable {P : Program} {a : Act} {o : Oper}
theorem run_cellP (ty : TypeId) (x : Operand) (p : Addr) (v : Value) (d : TypeDesc) (ho : o.op = .load ty x) (hx : a.eval x = .pointer (some p)) (hu : P.underlying ty = some d) (hd : (match d with | .struct _ | .array _ _ => true | _ => false) = false)
    (W : World) (hv : W.cell? p = some v) : (execOp a.eval o).run P W = .ok (.value v) W := by
  have hag : (isAgg ty).run P W = .ok false W := by
    unfold isAgg
    rw [Sem.run_bind, run_underlying hu W]
    cases d <;> simp_all
  unfold execOp
  simp [ho, hx, Instr.loadAt, Instr.sureAddr, loadVar, hag, hv]
theorem run_atU (t e : TypeId) (m : Nat) (x ix : Operand) (g off len cap j : Nat) (ho : o.op = .indexAddr t x ix) (hx : a.eval x = .slice (some ⟨g, off, none⟩) len cap) (hix : a.eval ix = .int .u64 (j : Int))
    (hu : P.underlying t = some (.slice e)) (hi : (P.info? e).map (·.size) = some m) (hj : j < len) (W : World) : (execOp a.eval o).run P W = .ok (.value (.pointer (some ⟨g, off + j * m, none⟩))) W := by
  have hsz : (sizeOf e).run P W = .ok m W := by
    cases hq : P.info? e with
    | none => simp [hq] at hi
    | some i =>
      have : i.size = m := by simpa [hq] using hi
      simp [sizeOf, typeInfo, hq, this]
  unfold execOp
  simp [ho, hx, hix, Instr.indexAt, asIntOf, run_underlying hu, hj, hsz, Addr.add_mid]
theorem run_atU1 (t e : TypeId) (x ix : Operand) (g off len cap j : Nat) (ho : o.op = .indexAddr t x ix) (hx : a.eval x = .slice (some ⟨g, off, none⟩) len cap) (hix : a.eval ix = .int .u64 (j : Int))
    (hu : P.underlying t = some (.slice e)) (hi : (P.info? e).map (·.size) = some 1) (hj : j < len) (W : World) : (execOp a.eval o).run P W = .ok (.value (.pointer (some ⟨g, off + j, none⟩))) W := by
  have h := run_atU (a := a) (o := o) t e 1 x ix g off len cap j ho hx hix hu hi hj W
  rw [Nat.mul_one] at h
  exact h
theorem run_update (t : TypeId) (mo ko vo : Operand) (m : Value) (k v : Value) (ho : o.op = .mapUpdate t mo ko vo) (hm : a.eval mo = m) (hk : a.eval ko = k) (hv : a.eval vo = v) (W W' : World) (he : (Instr.mapUpdate t m k v).run P W = .ok () W') : (execOp a.eval o).run P W = .ok .skip W' := by
  unfold execOp
  simp [ho, hm, hk, hv, he, Result.andThen]
end
end Go.Proofs.Ytmekhhabkljffaa
