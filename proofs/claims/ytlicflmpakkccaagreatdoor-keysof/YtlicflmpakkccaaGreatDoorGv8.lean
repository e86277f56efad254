/-
  Out of ShaRefPlain, ShaEq.
-/
import Derived.Test.YtlicflmpakkccaaGreatDoorGv1
import Derived.Test.YtlicflmpakkccaaGreatDoorGv17
import Derived.ChangeKeysEq
import Derived.Laws.StructEq

/-! The document's block, on lists: no program in sight. -/
namespace Go.Proofs.YtlicflmpakkccaaGreatDoor
open Go

/-- Four bytes as a word, all at once. -/
def word4 (b : List By) (q : Nat) : Wd := oo (oo (oo (sl (ex (gb b (4 * q))) 24) (sl (ex (gb b (4 * q + 1))) 16)) (sl (ex (gb b (4 * q + 2))) 8)) (ex (gb b (4 * q + 3)))
theorem take4 (l : List By) (q : Nat) (h : 4 * q + 4 ≤ l.length) : (l.drop (4 * q)).take 4 = [gb l (4 * q), gb l (4 * q + 1), gb l (4 * q + 2), gb l (4 * q + 3)] := by
  have e : ∀ j, j < 4 → (l.drop (4 * q))[j]? = some (gb l (4 * q + j)) := fun j hj => by
    rw [List.getElem?_drop]
    unfold gb
    rw [List.getElem?_eq_getElem (show 4 * q + j < l.length by omega)]
    rfl
  apply List.ext_getElem?
  intro j
  rw [List.getElem?_take]
  match j with
  | 0 => simpa using e 0 (by omega)
  | 1 => simpa using e 1 (by omega)
  | 2 => simpa using e 2 (by omega)
  | 3 => simpa using e 3 (by omega)
  | j + 4 => simp; omega
theorem word4_up (b : List By) (q : Nat) (h : 4 * q + 4 ≤ b.length) : wordUp ((b.drop (4 * q)).take 4) = word4 b q := by
  rw [take4 b q h]
  unfold wordUp word4
  simp only [List.foldl_cons, List.foldl_nil, oo, sl]
  simp only [BitVec.shiftLeft_or_distrib, ← BitVec.shiftLeft_add]
  simp
theorem first16_get (b : List By) (q : Nat) (hq : q < 16) (hb : b.length = 64) : (first16 b)[q]? = some (word4 b q) := by
  rw [← word4_up b q (by omega)]
  simp [first16, hq]

theorem fill_set2 {α : Type} (l : List α) (z : α) (k n : Nat) (hl : k < l.length) (hk : k < n) (x : α) (hx : l[k]? = some x) :
    (l.take k ++ List.replicate (n - k) z).set k x = l.take (k + 1) ++ List.replicate (n - (k + 1)) z := by
  have hx' : l[k]'(by omega) = x := by
    rw [List.getElem?_eq_getElem (by omega)] at hx
    exact Option.some.inj hx
  rw [List.set_append_right k x (by simp; omega), List.take_succ_eq_append_getElem (by omega), hx']
  have e : n - k = (n - (k + 1)) + 1 := by omega
  simp only [List.length_take, show min k l.length = k by omega, Nat.sub_self, e, List.replicate_succ, List.set_cons_zero, List.append_assoc, List.singleton_append]
theorem shlS (x : Wd) (n : Nat) (m : Int) (hm : m = 2 ^ n) (h0 : u x * m < 4294967296) : u x * m = u (sl x n) := by
  have h1 := u_nn x
  have hp : (0 : Int) ≤ m := by rw [hm]; exact Int.le_of_lt (Int.pow_pos (by decide))
  have h2 : 0 ≤ u x * m := Int.mul_nonneg h1 hp
  rw [← wsl, ← hm]
  omega

theorem waddw (a b : Wd) : IntKind.u32.wrap (u a + u b) = u (ad a b) := by rw [IntKind.wrap_u32', wadd]
theorem cellOff {w : World} {g i j : Nat} {v : Value} (h : ¬ j = i) : (w.setCell ⟨g, i, none⟩ v).cell? ⟨g, j, none⟩ = w.cell? ⟨g, j, none⟩ := by
  simp only [World.cell?, World.setCell, Array.getElem?_modify, if_true]
  cases hg : w.heap[g]? with
  | none => rfl
  | some o =>
    cases o with
    | cells cs t f => simp [show ¬ i = j by omega]
    | _ => rfl

/-- One of the document's 64 turns. -/
theorem turn_ref (a b c d e f g h k w : Wd) : turnL [a, b, c, d, e, f, g, h] (ad k w) =
    [ad (ad (ad (ad (ad h (S1 e)) (ch e f g)) k) w) (T2 a b c), a, b, c, ad d (ad (ad (ad (ad h (S1 e)) (ch e f g)) k) w), e, f, g] := by
  have e : T1 e f g h (ad k w) = ad (ad (ad (ad h (S1 e)) (ch e f g)) k) w := by unfold T1; rw [ad_assoc _ k w]
  simp only [turnL, gw, List.getElem?_cons_zero, List.getElem?_cons_succ, Option.getD_some, e]
theorem sumS_comm (s n : List Wd) : sumS s n = sumS n s := by
  unfold sumS
  apply List.map_congr_left
  intro i _
  exact ad_comm _ _
end Go.Proofs.YtlicflmpakkccaaGreatDoor

/-! An array of numbers is equal to itself, as the program asks it. -/
namespace Go.Proofs.YtlicflmpakkccaaGreatDoor
open Go Go.RowKit

section
variable {P : Program} (w : World)
theorem eqItems_self {t e : TypeId} {n : Nat} {k : IntKind} (he : P.underlying e = some (.int k)) (cs : Array Value) (hcs : ∀ j, j < n → ∃ z, cs[j]? = some (.int k z)) (d : Nat) :
    ∀ is : List Nat, (∀ i ∈ is, i < n) → (Op.eqItems (d + 1) e 1 cs cs is).run P w = .ok true w
  | [], _ => by simp [Op.eqItems]
  | i :: is, h => by
    obtain ⟨z, hz⟩ := hcs i (h i (by simp))
    have px : (part e cs (i * 1)).run P w = .ok (.int k z) w := by
      simp [part, isAgg, run_underlying he, hz]
    have pe : (Op.equalIn (d + 1) e (.int k z) (.int k z)).run P w = .ok true w := by
      rw [run_equalIn_int w d e k k _ _ he]
      simp
    simp only [Op.eqItems, Sem.run_bind, px, pe, Result.andThen_ok, Bool.not_true, Bool.false_eq_true, if_false]
    exact eqItems_self (t := t) he cs hcs d is (fun j hj => h j (by simp [hj]))

theorem run_eql_self {t e : TypeId} {n : Nat} {k : IntKind} {i : TypeInfo} (hu : P.underlying t = some (.array n e)) (he : P.underlying e = some (.int k)) (hi : P.info? e = some i) (hc : P.cellsOf e = 1) (cs : Array Value) (hcs : ∀ j, j < n → ∃ z, cs[j]? = some (.int k z)) :
    (binOp .eql t (.agg cs) (.agg cs)).run P w = .ok (.bool true) w := by
  rw [run_eql_struct, run_equalIn_array w 9999 cs cs hu hi, hc, eqItems_self w (t := t) he cs hcs 9998 _ (fun i hi => List.mem_range.1 hi)]
  rfl

/-- The operation itself. -/
theorem exec_eql_self {o : Oper} {a : Act} (t e : TypeId) (n : Nat) (k : IntKind) (x y : Operand) (t' : TypeId) (cs : Array Value) (ho : o.op = .binOp .eql t x y t') (hx : a.eval x = .agg cs) (hy : a.eval y = .agg cs)
    (hu : P.underlying t = some (.array n e)) (he : P.underlying e = some (.int k)) (hi : (P.info? e).isSome = true) (hc : P.cellsOf e = 1) (hg : P.eqGuardType P.depth t = false) (hcs : ∀ j, j < n → ∃ z, cs[j]? = some (.int k z)) :
    (execOp a.eval o).run P w = .ok (.value (.bool true)) w := by
  obtain ⟨i, hi⟩ := Option.isSome_iff_exists.1 hi
  have h1 : (eqGuard .eql t x y (.agg cs) (.agg cs)).run P w = .ok () w := by
    simp [eqGuard, hg]
  unfold execOp
  simp only [ho, hx, hy, Sem.run_bind, h1, Result.andThen_ok, run_eql_self w hu he hi hc cs hcs, Sem.run_pure]
end
end Go.Proofs.YtlicflmpakkccaaGreatDoor
