/-
  No word begins another one; single operations. No function of the program in sight.
-/
import Derived.Test.YtdieodhfkmnbcaaHfEight
import Derived.Test.YtdieodhfkmnbcaaFrGen
namespace Go.Proofs.Ytdieodhfkmnbcaa
open Go Go.RowKit

theorem bitsN_take (n v k : Nat) (h : k ≤ n) : (Hf.bitsN n v).take k = Hf.bitsN k (v / 2 ^ (n - k)) := by
  apply List.ext_getElem?
  intro j
  rw [List.getElem?_take]
  by_cases hj : j < k
  · rw [if_pos hj, Hf.bitsN_get n v j (by omega), Hf.bitsN_get k _ j hj, Nat.div_div_eq_div_mul, ← Nat.pow_add]
    rw [show n - k + (k - 1 - j) = n - 1 - j by omega]
  · rw [if_neg hj, List.getElem?_eq_none (by rw [Hf.bitsN_length]; omega)]
theorem bitsN_inj (n : Nat) {u v : Nat} (hu : u < 2 ^ n) (hv : v < 2 ^ n) (h : Hf.bitsN n u = Hf.bitsN n v) : u = v := by
  induction n generalizing u v with
  | zero => simp at hu hv; omega
  | succ n ih =>
    have e1 : u = 2 * (u / 2) + (decide (u % 2 = 1)).toNat := by
      by_cases c : u % 2 = 1
      · rw [decide_eq_true c, Bool.toNat_true]; omega
      · rw [decide_eq_false c, Bool.toNat_false]; omega
    have e2 : v = 2 * (v / 2) + (decide (v % 2 = 1)).toNat := by
      by_cases c : v % 2 = 1
      · rw [decide_eq_true c, Bool.toNat_true]; omega
      · rw [decide_eq_false c, Bool.toNat_false]; omega
    rw [e1, e2, Hf.bitsN_snoc, Hf.bitsN_snoc] at h
    obtain ⟨h1, h2⟩ := List.append_inj' h rfl
    have h3 := ih (by rw [Nat.pow_succ] at hu; omega) (by rw [Nat.pow_succ] at hv; omega) h1
    injection h2 with h2
    rw [e1, e2, h3, h2]
theorem val_lt (c : By) : Hf.val c.toNat < 2 ^ Hf.sz c.toNat := Hf.word_all_lt c
theorem words_one {a b : By} (hle : Hf.sz a.toNat ≤ Hf.sz b.toNat) (h : (Hf.wb a.toNat).take (Hf.sz a.toNat) = (Hf.wb b.toNat).take (Hf.sz a.toNat)) : a = b := by
  have ha : a.toNat < 257 := by have := a.isLt; omega
  have hb : b.toNat < 257 := by have := b.isLt; omega
  have wa := Hf.word_ok ha
  have wb := Hf.word_ok hb
  unfold Hf.wb at h
  rw [bitsN_take _ _ _ (Nat.le_refl _), bitsN_take _ _ _ hle, Nat.sub_self, Nat.pow_zero, Nat.div_one] at h
  have hv := bitsN_inj _ (val_lt a) (by
    have := val_lt b
    rw [show Hf.sz b.toNat = Hf.sz a.toNat + (Hf.sz b.toNat - Hf.sz a.toNat) by omega, Nat.pow_add] at this
    exact Nat.div_lt_of_lt_mul (by rw [Nat.mul_comm]; exact this)) h
  by_cases e : Hf.sz a.toNat = Hf.sz b.toNat
  · rw [e, Nat.sub_self, Nat.pow_zero, Nat.div_one] at hv
    have h1 := wa.2.2.2.2
    rw [e, hv, wb.2.2.2.2] at h1
    injection h1 with h1
    exact BitVec.eq_of_toNat_eq h1.symm
  · have hp := Hf.pre_lim hb (Hf.sz b.toNat - Hf.sz a.toNat) (by omega) (by omega)
    rw [show Hf.sz b.toNat - (Hf.sz b.toNat - Hf.sz a.toNat) = Hf.sz a.toNat by omega, ← hv] at hp
    have := wa.2.2.2.1
    omega
theorem toBy_inj {x y : Bool} (h : toBy x = toBy y) : x = y := by
  cases x <;> cases y <;> first | rfl | (revert h; decide)
theorem bitBytes_inj {A B : List Bool} (h : bitBytes A = bitBytes B) : A = B := (List.map_inj_right (fun _ _ e => toBy_inj e)).1 h
theorem bitBytes_take (A : List Bool) (k : Nat) : (bitBytes A).take k = bitBytes (A.take k) := by simp [bitBytes, List.map_take]
/-- As the law asks it. -/
theorem words_law (a b : By) : decide ((bitBytes (Hf.wb a.toNat)).take (min (Hf.sz a.toNat) (Hf.sz b.toNat)) = (bitBytes (Hf.wb b.toNat)).take (min (Hf.sz a.toNat) (Hf.sz b.toNat))) = decide (a = b) := by
  by_cases e : a = b
  · subst e
    simp
  · rw [decide_eq_false e, decide_eq_false]
    intro h
    rw [bitBytes_take, bitBytes_take] at h
    have h' := bitBytes_inj h
    rcases Nat.le_total (Hf.sz a.toNat) (Hf.sz b.toNat) with c | c
    · rw [Nat.min_eq_left c] at h'
      exact e (words_one c h')
    · rw [Nat.min_eq_right c] at h'
      exact e (words_one c h'.symm).symm

section
variable {P : Program} {a : Act} {o : Oper}
theorem run_geqC (t t' : TypeId) (x y : Operand) (m r : Nat) (h : r ≤ m) (ho : o.op = .binOp .geq t x y t') (hx : a.eval x = .int .i64 (m : Int)) (hy : a.eval y = .int .i64 (r : Int)) (W : World) : (execOp a.eval o).run P W = .ok (.value (.bool true)) W := by
  have hd : decide ((r : Int) ≤ (m : Int)) = true := by simp; omega
  unfold execOp
  simp only [ho, hx, hy]
  go_simp
theorem run_leqC (t t' : TypeId) (x y : Operand) (m r : Nat) (h : m ≤ r) (ho : o.op = .binOp .leq t x y t') (hx : a.eval x = .int .i64 (m : Int)) (hy : a.eval y = .int .i64 (r : Int)) (W : World) : (execOp a.eval o).run P W = .ok (.value (.bool true)) W := by
  have hd : decide ((m : Int) ≤ (r : Int)) = true := by simp; omega
  unfold execOp
  simp only [ho, hx, hy]
  go_simp
theorem run_eqlI (t t' : TypeId) (x y : Operand) (m : Nat) (ho : o.op = .binOp .eql t x y t') (hx : a.eval x = .int .i64 (m : Int)) (hy : a.eval y = .int .i64 (m : Int)) (W : World) : (execOp a.eval o).run P W = .ok (.value (.bool true)) W := by
  unfold execOp
  simp only [ho, hx, hy]
  go_simp
theorem run_eqlU (t t' : TypeId) (x y : Operand) (p q : Nat) (ho : o.op = .binOp .eql t x y t') (hx : a.eval x = .int .u8 (p : Int)) (hy : a.eval y = .int .u8 (q : Int)) (W : World) : (execOp a.eval o).run P W = .ok (.value (.bool (decide (p = q)))) W := by
  have hd : ((p : Int) == (q : Int)) = decide (p = q) := by
    rw [Bool.eq_iff_iff]
    simp
    omega
  unfold execOp
  simp only [ho, hx, hy]
  go_simp
theorem run_eqlB (t' : TypeId) (i j : Nat) (p : Bool) (ho : o.op = .binOp .eql 4 (.tmp i) (.tmp j) t') (hx : a.eval (.tmp i) = .bool p) (hy : a.eval (.tmp j) = .bool p) (W : World) : (execOp a.eval o).run Try.prog W = .ok (.value (.bool true)) W := by
  have h : (binOp .eql 4 (.bool p) (.bool p)).run Try.prog W = .ok (.bool true) W := by cases p <;> kernel_rfl
  have hg : (eqGuard .eql 4 (.tmp i) (.tmp j) (.bool p) (.bool p)).run Try.prog W = .ok () W := by cases p <;> kernel_rfl
  unfold execOp
  simp only [ho, hx, hy, Sem.run_bind, hg, h, Result.andThen_ok, Sem.run_pure]
theorem run_sliceH (x y : Operand) (g n c k : Nat) (hk : k ≤ c) (ho : o.op = .slice 22 x none (some y) none) (hx : a.eval x = .slice (some ⟨g, 0, none⟩) n c) (hy : a.eval y = .int .i64 (k : Int)) (W : World) :
    (execOp a.eval o).run Try.prog W = .ok (.value (.slice (some ⟨g, 0, none⟩) k c)) W := by
  have h : (Instr.slice 22 (.slice (some ⟨g, 0, none⟩) n c) none (some (.int .i64 (k : Int))) none).run Try.prog W = .ok (.slice (some ⟨g, 0, none⟩) k c) W := by
    simp [Instr.slice, Instr.sliceBounds, Instr.sliceBound, asIntOf, run_underlying Try.underlying22, hk]
    intro _
    exact add_at g 0 0
  unfold execOp
  simp [ho, hx, hy, Instr.sliceAt, run_underlying Try.underlying22, h]
theorem run_lenS (t : TypeId) (x : Operand) (ad : Option Addr) (n c : Nat) (e : TypeId) (hu : P.underlying t = some (.slice e)) (ho : o.op = .call { callee := .builtin .len, args := #[x], argTypes := #[t] }) (hx : a.eval x = .slice ad n c) (W : World) :
    (execOp a.eval o).run P W = .ok (.value (.int .i64 (n : Int))) W := by
  unfold execOp
  simp [ho, resolve, invoke, builtin, hx, Builtin.len_, run_underlying hu]
  rfl
end
end Go.Proofs.Ytdieodhfkmnbcaa
