/-
  A map from numbers to methods of one reader, in memory. No program in sight but its types' numbers.
-/
import Derived.Test.YtjhgelhdhdcmfaaDoorGfFrGetA
import Derived.Maps.Keyed
namespace Go.Proofs.YtjhgelhdhdcmfaaDoor
open Go Go.RowKit Go.ChangeMaps

/-- A method's value. -/
def fv (g f : Nat) : Value := .func (.func f) #[.pointer (some ⟨g, 0, none⟩)] #[]
def entL (g : Nat) : Nat → List (Nat × Nat) → List MapEntry
  | _, [] => []
  | i, (k, f) :: r => ⟨.int .u64 (k : Int), fv g f, i⟩ :: entL g (i + 1) r
def MapIs (W : World) (b g : Nat) (L : List (Nat × Nat)) : Prop := W.heap[b]? = some (.map (entL g 0 L).toArray L.length)
theorem entL_append (g : Nat) : ∀ (L : List (Nat × Nat)) (i k f : Nat), entL g i (L ++ [(k, f)]) = entL g i L ++ [⟨.int .u64 (k : Int), fv g f, i + L.length⟩]
  | [], i, k, f => by simp [entL]
  | (k', f') :: r, i, k, f => by
    rw [List.cons_append, entL, entL, entL_append g r (i + 1) k f, List.cons_append, List.length_cons]
    congr 4
    omega
def findL (n : Nat) : List (Nat × Nat) → Nat → Option (Nat × Nat)
  | [], _ => none
  | (k, f) :: r, i => if k = n then some (i, f) else findL n r (i + 1)
theorem findNow_ent (g n : Nat) : ∀ (L : List (Nat × Nat)) (i j : Nat), Instr.findNow (.int .u64) (.int .u64 (n : Int)) (entL g i L) j = some ((findL n L j).map fun p => (p.1, fv g p.2))
  | [], _, _ => rfl
  | (k, f) :: r, i, j => by
    rw [entL, Instr.findNow]
    have e : Instr.sameNow (.int .u64) (.int .u64 (n : Int)) (.int .u64 (k : Int)) = some ((n : Int) == (k : Int)) := by simp [Instr.sameNow]
    simp only [e]
    by_cases h : k = n
    · have h2 : ((n : Int) == (k : Int)) = true := by simp; omega
      rw [h2]
      simp only [findL, if_pos h, Option.map_some]
    · have h2 : ((n : Int) == (k : Int)) = false := by simp; omega
      rw [h2]
      simp only [findL, if_neg h]
      exact findNow_ent g n r (i + 1) (j + 1)
theorem findL_none (n : Nat) : ∀ (L : List (Nat × Nat)) (j : Nat), (∀ p ∈ L, p.1 ≠ n) → findL n L j = none
  | [], _, _ => rfl
  | (k, f) :: r, j, h => by
    rw [findL, if_neg (h (k, f) (by simp))]
    exact findL_none n r (j + 1) (fun p hp => h p (by simp [hp]))
section
variable {P : Program} {kT : TypeId} (hk : P.underlying kT = some (.int .u64))
include hk
theorem run_findL {g n : Nat} {L : List (Nat × Nat)} (W : World) : (Instr.findKey kT (.int .u64 (n : Int)) (entL g 0 L)).run P W = .ok ((findL n L 0).map fun p => (p.1, fv g p.2)) W := by
  unfold Instr.findKey
  rw [Sem.run_bind, run_underlying hk W]
  simp only [Result.andThen_ok, findNow_ent, Sem.run_pure]
theorem run_checkL (c : Bool) (n : Nat) (W : World) : (Instr.checkKey c 10000 kT (.int .u64 (n : Int))).run P W = .ok () W := by
  show (Instr.checkKey c (9999 + 1) kT (.int .u64 (n : Int))).run P W = .ok () W
  rw [Instr.checkKey, Sem.run_bind, run_underlying hk W]
  simp
theorem run_insertL {eT t : TypeId} (ht : P.underlying t = some (.map kT eT)) {b g n f : Nat} {L : List (Nat × Nat)} {W : World} (h : MapIs W b g L) (hno : ∀ p ∈ L, p.1 ≠ n) :
    ∃ W', (Instr.mapUpdate t (.map (some b)) (.int .u64 (n : Int)) (fv g f)).run P W = .ok () W' ∧ MapIs W' b g (L ++ [(n, f)]) ∧ W.grownBy W' (some b) := by
  refine ⟨setBlock W b (.map (entL g 0 (L ++ [(n, f)])).toArray (L.length + 1)), ?_, ?_, ⟨rfl, rfl, rfl, by simp [setBlock], fun i _ hi => heap_setBlock_other h _ (fun e => hi (by rw [e]))⟩⟩
  · have e : (entL g 0 (L ++ [(n, f)])).toArray = (entL g 0 L).toArray.push ⟨.int .u64 (n : Int), fv g f, L.length⟩ := by
      rw [entL_append, Nat.zero_add]
      simp
    rw [e]
    simp [Instr.mapUpdate, run_underlying ht, MapKept.run_getObj_map h, run_checkL hk false n W, run_findL hk W, findL_none n L 0 hno, MapKept.run_setObj_map _ h, Result.andThen, setBlock]
  · unfold MapIs
    rw [heap_setBlock_same h]
    simp
theorem run_lookupL {eT t : TypeId} (ht : P.underlying t = some (.map kT eT)) {b g n : Nat} {L : List (Nat × Nat)} {W : World} (h : MapIs W b g L) (hz : (zeroValue eT).run P W = .ok .nilFunc W) :
    (Instr.lookup t (.map (some b)) (.int .u64 (n : Int)) true).run P W = .ok (.tuple #[match findL n L 0 with | none => .nilFunc | some p => fv g p.2, .bool (findL n L 0).isSome]) W := by
  cases hf : findL n L 0 with
  | none => simp [Instr.lookup, run_underlying ht, MapKept.run_getObj_map h, run_checkL hk _ n W, run_findL hk W, hf, hz, Result.andThen]
  | some p => simp [Instr.lookup, run_underlying ht, MapKept.run_getObj_map h, run_checkL hk _ n W, run_findL hk W, hf, Result.andThen]
end
theorem MapIs.keep {W W' : World} {b g : Nat} {L : List (Nat × Nat)} (h : MapIs W b g L) (e : W'.heap[b]? = W.heap[b]?) : MapIs W' b g L := e.trans h
theorem MapIs.lt {W : World} {b g : Nat} {L : List (Nat × Nat)} (h : MapIs W b g L) : b < W.heap.size := (Array.getElem?_eq_some_iff.1 h).1
theorem insert_wp {P : Program} {a : Act} {o : Oper} {ops : Array Oper} {rest : List Oper} {w : World} {Q : Exit → Act → World → Prop} (hgd : o.guard = none) (t kT eT : TypeId) (m k x : Operand) (ho : o.op = .insert t m k x ∨ o.op = .mapUpdate t m k x) (ht : P.underlying t = some (.map kT eT)) (hk : P.underlying kT = some (.int .u64)) (b g n f : Nat) (L : List (Nat × Nat)) (hm : a.eval m = .map (some b)) (hkk : a.eval k = .int .u64 (n : Int)) (hx : a.eval x = fv g f) (h : MapIs w b g L) (hno : ∀ p ∈ L, p.1 ≠ n)
    (hK : ∀ w', MapIs w' b g (L ++ [(n, f)]) → w.grownBy w' (some b) → wpList P ops Q rest (a.put o.dst undef) w') : wpList P ops Q (o :: rest) a w := by
  obtain ⟨W', hr, h1, h2⟩ := run_insertL hk ht (f := f) h hno
  refine wpList_plain hgd fun K' hK' => ?_
  have he : (execOp a.eval o).run P w = .ok .skip W' := by
    unfold execOp
    rcases ho with ho | ho <;> simp only [ho, hm, hkk, hx, Sem.run_bind, hr, Result.andThen_ok, Sem.run_pure]
  unfold Oper.wp
  rw [he]
  exact hK' _ _ (hK W' h1 h2)
end Go.Proofs.YtjhgelhdhdcmfaaDoor
