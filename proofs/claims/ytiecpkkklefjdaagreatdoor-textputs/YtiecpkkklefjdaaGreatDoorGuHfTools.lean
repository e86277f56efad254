/-
  Rows of numbers and of words of few bits in memory; what allocates, loads and stores them. No function of the program in sight.
-/
import Derived.Test.YtiecpkkklefjdaaGreatDoorGuHfPack
import Derived.Test.YtiecpkkklefjdaaGreatDoorGuShaHeld
namespace Go.Proofs.YtiecpkkklefjdaaGreatDoor
open Go Go.RowKit

def ia (xs : List Nat) : Array Value := (xs.map fun (x : Nat) => Value.int .i64 (x : Int)).toArray
def ua (xs : List Nat) : Array Value := (xs.map fun (x : Nat) => Value.int .u32 (x : Int)).toArray
theorem ia_size (xs : List Nat) : (ia xs).size = xs.length := by simp [ia]
theorem ua_size (xs : List Nat) : (ua xs).size = xs.length := by simp [ua]
theorem ia_one (xs : List Nat) : (ia xs).all (·.oneCell') = true := by simp [ia, Value.oneCell']
theorem ua_one (xs : List Nat) : (ua xs).all (·.oneCell') = true := by simp [ua, Value.oneCell']
theorem ia_get (xs : List Nat) (j : Nat) (h : j < xs.length) : (ia xs)[j]? = some (.int .i64 ((gn xs j : Nat) : Int)) := by simp [ia, gn, h]
theorem ua_get (xs : List Nat) (j : Nat) (h : j < xs.length) : (ua xs)[j]? = some (.int .u32 ((gn xs j : Nat) : Int)) := by simp [ua, gn, h]
theorem ua_set (xs : List Nat) (j x : Nat) : (ua xs).setIfInBounds j (.int .u32 (x : Int)) = ua (xs.set j x) := by
  apply Array.ext'
  simp [ua, List.map_set]
theorem Row.cellI {w : World} {g : Nat} {t : TypeId} {xs : List Nat} (h : Row w g t (ia xs)) {j : Nat} (hj : j < xs.length) : w.cell? ⟨g, j, none⟩ = some (.int .i64 ((gn xs j : Nat) : Int)) := (h.cell j).trans (ia_get xs j hj)
theorem Row.cellU {w : World} {g : Nat} {t : TypeId} {xs : List Nat} (h : Row w g t (ua xs)) {j : Nat} (hj : j < xs.length) : w.cell? ⟨g, j, none⟩ = some (.int .u32 ((gn xs j : Nat) : Int)) := (h.cell j).trans (ua_get xs j hj)

/-- Words: each its size and its value. -/
def wl (xs : List (Nat × Nat)) : List Value := xs.flatMap fun p => [.int .i64 (p.1 : Int), .int .u32 (p.2 : Int)]
def wa (xs : List (Nat × Nat)) : Array Value := (wl xs).toArray
theorem wl_cons (p : Nat × Nat) (xs : List (Nat × Nat)) : wl (p :: xs) = .int .i64 (p.1 : Int) :: .int .u32 (p.2 : Int) :: wl xs := rfl
theorem wl_length (xs : List (Nat × Nat)) : (wl xs).length = 2 * xs.length := by
  induction xs with
  | nil => rfl
  | cons p xs ih => rw [wl_cons, List.length_cons, List.length_cons, ih, List.length_cons]; omega
theorem wa_size (xs : List (Nat × Nat)) : (wa xs).size = 2 * xs.length := by simp [wa, wl_length]
theorem wa_one (xs : List (Nat × Nat)) : (wa xs).all (·.oneCell') = true := by
  have : ∀ v ∈ wl xs, v.oneCell' = true := by
    intro v hv
    unfold wl at hv
    obtain ⟨p, _, hp⟩ := List.mem_flatMap.1 hv
    simp at hp
    rcases hp with rfl | rfl <;> rfl
  simpa [wa] using this
def gp (xs : List (Nat × Nat)) (j : Nat) : Nat × Nat := xs[j]?.getD (0, 0)
theorem wl_get0 (xs : List (Nat × Nat)) (j : Nat) (h : j < xs.length) : (wl xs)[2 * j]? = some (.int .i64 ((gp xs j).1 : Int)) := by
  induction xs generalizing j with
  | nil => simp at h
  | cons p xs ih =>
    cases j with
    | zero => rfl
    | succ j => rw [wl_cons, show 2 * (j + 1) = 2 * j + 1 + 1 by omega, List.getElem?_cons_succ, List.getElem?_cons_succ, ih j (by simpa using h)]; rfl
theorem wl_get1 (xs : List (Nat × Nat)) (j : Nat) (h : j < xs.length) : (wl xs)[2 * j + 1]? = some (.int .u32 ((gp xs j).2 : Int)) := by
  induction xs generalizing j with
  | nil => simp at h
  | cons p xs ih =>
    cases j with
    | zero => rfl
    | succ j => rw [wl_cons, show 2 * (j + 1) + 1 = 2 * j + 1 + 1 + 1 by omega, List.getElem?_cons_succ, List.getElem?_cons_succ, ih j (by simpa using h)]; rfl
theorem wl_set (xs : List (Nat × Nat)) (j : Nat) (p : Nat × Nat) (h : j < xs.length) : ((wl xs).set (2 * j) (.int .i64 (p.1 : Int))).set (2 * j + 1) (.int .u32 (p.2 : Int)) = wl (xs.set j p) := by
  induction xs generalizing j with
  | nil => simp at h
  | cons q xs ih =>
    cases j with
    | zero => rfl
    | succ j =>
      rw [wl_cons, show 2 * (j + 1) + 1 = 2 * j + 1 + 1 + 1 by omega, show 2 * (j + 1) = 2 * j + 1 + 1 by omega, List.set_cons_succ, List.set_cons_succ, List.set_cons_succ, List.set_cons_succ, ih j (by simpa using h)]
      rfl
theorem wa_set (xs : List (Nat × Nat)) (j : Nat) (p : Nat × Nat) (h : j < xs.length) : ((wa xs).setIfInBounds (j * 2) (.int .i64 (p.1 : Int))).setIfInBounds (j * 2 + 1) (.int .u32 (p.2 : Int)) = wa (xs.set j p) := by
  apply Array.ext'
  simp only [wa, Array.toList_setIfInBounds, Nat.mul_comm j 2]
  exact wl_set xs j p h
theorem Row.cellP0 {w : World} {g : Nat} {t : TypeId} {xs : List (Nat × Nat)} (h : Row w g t (wa xs)) {j : Nat} (hj : j < xs.length) : w.cell? ⟨g, j * 2, none⟩ = some (.int .i64 ((gp xs j).1 : Int)) := (h.cell _).trans (by rw [wa, List.getElem?_toArray, Nat.mul_comm]; exact wl_get0 xs j hj)
theorem Row.cellP1 {w : World} {g : Nat} {t : TypeId} {xs : List (Nat × Nat)} (h : Row w g t (wa xs)) {j : Nat} (hj : j < xs.length) : w.cell? ⟨g, j * 2 + 1, none⟩ = some (.int .u32 ((gp xs j).2 : Int)) := (h.cell _).trans (by rw [wa, List.getElem?_toArray, Nat.mul_comm]; exact wl_get1 xs j hj)

/-- Noughts. -/
def zI : List Nat := List.replicate 257 0
def zU : List Nat := List.replicate 31 0
def zW : List (Nat × Nat) := List.replicate 257 (0, 0)
theorem zI_size : (ia zI).size = 257 := by rw [ia_size, zI, List.length_replicate]
theorem zU_size : (ua zU).size = 31 := by rw [ua_size, zU, List.length_replicate]
theorem zW_size : (wa zW).size = 514 := by rw [wa_size, zW, List.length_replicate]

section
variable {P : Program}
theorem exec_allocH {a : Act} {o : Oper} {w : World} (t : TypeId) (ho : o.op = .alloc t) (cs : Array Value) (hz : (P.info? t).map (·.zero) = some (some (.agg cs))) : (execOp a.eval o).run P w = .ok (.value (.pointer (some ⟨w.heap.size, 0, none⟩))) (w.alloc (.cells cs t)) := by
  have hzv : (zeroValue t).run P w = .ok (.agg cs) w := by
    cases hq : P.info? t with
    | none => simp [hq] at hz
    | some i =>
      have : i.zero = some (.agg cs) := by simpa [hq] using hz
      simp [zeroValue, typeInfo, hq, this]
  unfold execOp
  simp only [ho, Instr.alloc, Sem.run_bind, hzv, Result.andThen_ok, newVar, newRow, Value.cells, run_newObj_alloc, Sem.run_pure]
theorem alloc_rowH {ops : Array Oper} {rest : List Oper} {o : Oper} {a : Act} {w : World} {Q : Exit → Act → World → Prop} (hgd : o.guard = none) (t : TypeId) (ho : o.op = .alloc t) (cs : Array Value) (hz : (P.info? t).map (·.zero) = some (some (.agg cs)))
    (h : wpList P ops Q rest (a.put o.dst (.pointer (some ⟨w.heap.size, 0, none⟩))) (w.alloc (.cells cs t))) : wpList P ops Q (o :: rest) a w :=
  wpList_plain hgd fun _ hK => by
    unfold Oper.wp
    rw [exec_allocH t ho cs hz]
    exact hK _ _ h
end
end Go.Proofs.YtiecpkkklefjdaaGreatDoor
