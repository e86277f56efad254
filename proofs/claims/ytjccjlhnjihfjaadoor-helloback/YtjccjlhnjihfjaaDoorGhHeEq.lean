/-
  Greetings, and their parts, compared.
-/
import Derived.Test.YtjccjlhnjihfjaaDoorGhHeMem
import Derived.Test.YtjccjlhnjihfjaaDoorGh4
namespace Go.Proofs.YtjccjlhnjihfjaaDoor
open Go Go.RowKit

section
variable {P : Program} (w : World)
theorem eqItems_int {e : TypeId} {k : IntKind} (he : P.underlying e = some (.int k)) (xs ys : Array Value) (f g : Nat → Int) (n : Nat) (hx : ∀ j, j < n → xs[j]? = some (.int k (f j))) (hy : ∀ j, j < n → ys[j]? = some (.int k (g j))) (d : Nat) :
    ∀ is : List Nat, (∀ i ∈ is, i < n) → (Op.eqItems (d + 1) e 1 xs ys is).run P w = .ok (is.all fun i => f i == g i) w
  | [], _ => by simp [Op.eqItems]
  | i :: is, h => by
    have px : (part e xs (i * 1)).run P w = .ok (.int k (f i)) w := by
      simp [part, isAgg, run_underlying he, hx i (h i (by simp))]
    have py : (part e ys (i * 1)).run P w = .ok (.int k (g i)) w := by
      simp [part, isAgg, run_underlying he, hy i (h i (by simp))]
    have pe : (Op.equalIn (d + 1) e (.int k (f i)) (.int k (g i))).run P w = .ok (f i == g i) w := run_equalIn_int w d e k k _ _ he
    simp only [Op.eqItems, Sem.run_bind, px, py, pe, Result.andThen_ok, List.all_cons]
    cases f i == g i
    · simp
    · simp only [Bool.not_true, Bool.false_eq_true, if_false, Bool.true_and]
      exact eqItems_int he xs ys f g n hx hy d is (fun j hj => h j (by simp [hj]))
end
theorem all_bytes (a b : List By) (n : Nat) (ha : a.length = n) (hb : b.length = n) : ((List.range n).all fun i => v8 (gb a i) == v8 (gb b i)) = decide (a = b) := by
  by_cases h : a = b
  · subst h
    simp
  · rw [decide_eq_false h]
    cases hq : (List.range n).all fun i => v8 (gb a i) == v8 (gb b i) with
    | false => rfl
    | true =>
      exfalso
      apply h
      apply List.ext_getElem (by omega)
      intro i h1 h2
      have h3 := List.all_eq_true.1 hq i (List.mem_range.2 (by omega))
      have h4 := v8_inj (eq_of_beq h3)
      unfold gb at h4
      rw [List.getElem?_eq_getElem h1, List.getElem?_eq_getElem h2] at h4
      exact h4
theorem eq_bytesH (w : World) (d : Nat) (a b : List By) (ha : a.length = 32) (hb : b.length = 32) : (Op.equalIn (d + 1 + 1) 23 (.agg (bs a)) (.agg (bs b))).run Tryd.prog w = .ok (decide (a = b)) w := by
  obtain ⟨i, hi⟩ := Option.isSome_iff_exists.1 (show (Tryd.prog.info? 5).isSome = true by kernel_rfl)
  rw [run_equalIn_array w (d + 1) (bs a) (bs b) Tryd.underlying23 hi, show Tryd.prog.cellsOf 5 = 1 by kernel_rfl,
    eqItems_int w Tryd.underlying5 (bs a) (bs b) (fun i => v8 (gb a i)) (fun i => v8 (gb b i)) 32 (fun j hj => bs_get a j (by omega)) (fun j hj => bs_get b j (by omega)) d _ (fun i hi => List.mem_range.1 hi), all_bytes a b 32 ha hb]
def lAt (l : He.Q4) : Nat → Int
  | 0 => l.1
  | 1 => l.2.1
  | 2 => l.2.2.1
  | _ => l.2.2.2
theorem qv_get (l : He.Q4) (j : Nat) (h : j < 4) : (qv l).toArray[j]? = some (.int .u64 (lAt l j)) := by
  match j, h with
  | 0, _ => rfl
  | 1, _ => rfl
  | 2, _ => rfl
  | 3, _ => rfl
theorem eq_limsH (w : World) (d : Nat) (a b : He.Q4) : (Op.equalIn (d + 1 + 1) 25 (.agg (qv a).toArray) (.agg (qv b).toArray)).run Tryd.prog w = .ok (decide (a = b)) w := by
  obtain ⟨i, hi⟩ := Option.isSome_iff_exists.1 (show (Tryd.prog.info? 24).isSome = true by kernel_rfl)
  rw [run_equalIn_array w (d + 1) (qv a).toArray (qv b).toArray Tryd.underlying25 hi, show Tryd.prog.cellsOf 24 = 1 by kernel_rfl,
    eqItems_int w Tryd.underlying24 (qv a).toArray (qv b).toArray (lAt a) (lAt b) 4 (qv_get a) (qv_get b) d _ (fun i hi => List.mem_range.1 hi)]
  refine congrArg (fun b => Result.ok b w) ?_
  obtain ⟨a0, a1, a2, a3⟩ := a
  obtain ⟨b0, b1, b2, b3⟩ := b
  rw [Bool.eq_iff_iff]
  simp only [List.all_eq_true, List.mem_range, beq_iff_eq, decide_eq_true_eq, Prod.mk.injEq]
  constructor
  · intro h
    have h0 := h 0 (by decide)
    have h1 := h 1 (by decide)
    have h2 := h 2 (by decide)
    have h3 := h 3 (by decide)
    simp only [lAt] at h0 h1 h2 h3
    omega
  · rintro ⟨rfl, rfl, rfl, rfl⟩ x _
    rfl
theorem ext_nn {x : He.H} (hx : x.Fine) : (heC x).extract 1 33 = bs x.nn := by
  apply Array.ext'
  simp only [heC, heL, List.extract_toArray, List.extract_eq_take_drop, List.drop_succ_cons, List.drop_zero]
  rw [List.take_append_of_le_length (by rw [vb_length, hx.n32]; decide), List.take_of_length_le (by rw [vb_length, hx.n32]; decide)]
  rfl
theorem ext_l {x : He.H} (hx : x.Fine) : (heC x).extract 33 37 = (qv x.l).toArray := by
  apply Array.ext'
  simp only [heC, heL, List.extract_toArray, List.extract_eq_take_drop]
  rw [List.drop_succ_cons, List.drop_append, vb_length, hx.n32, List.drop_of_length_le (by rw [vb_length, hx.n32]; decide)]
  rfl
theorem ext_pf {x : He.H} (hx : x.Fine) : (heC x).extract 37 69 = bs x.pf := by
  apply Array.ext'
  simp only [heC, heL, List.extract_toArray, List.extract_eq_take_drop]
  rw [List.drop_succ_cons, List.drop_append, vb_length, hx.n32, List.drop_of_length_le (by rw [vb_length, hx.n32]; decide)]
  simp only [List.nil_append, Nat.reduceSub, List.drop_append, List.length_cons, List.length_nil, List.drop_succ_cons, List.drop_nil, List.drop_zero, Nat.reduceAdd, Nat.sub_self]
  rw [List.take_of_length_le (by rw [vb_length, hx.p32]; decide)]
  rfl
theorem fieldsH : (Tryd.prog.fieldsOf 27).toList = [{ name := "Kind", type := 22, offset := 0, embedded := false, tag := "", pkgPath := "", byteOffset := 0 }, { name := "Nonce", type := 23, offset := 1, embedded := false, tag := "", pkgPath := "", byteOffset := 1 }, { name := "Limits", type := 25, offset := 33, embedded := false, tag := "", pkgPath := "", byteOffset := 40 }, { name := "Proof", type := 23, offset := 37, embedded := false, tag := "", pkgPath := "", byteOffset := 72 }] := by kernel_rfl
theorem part_bytes (w : World) (cs : Array Value) (o : Nat) : (part 23 cs o).run Tryd.prog w = .ok (.agg (cs.extract o (o + 32))) w := by
  obtain ⟨i, hi⟩ := Option.isSome_iff_exists.1 (show (Tryd.prog.info? 23).isSome = true by kernel_rfl)
  have hs : (Tryd.prog.info? 23).map (·.size) = some 32 := by kernel_rfl
  rw [hi] at hs
  have hs' : i.size = 32 := by simpa using hs
  simp [part, isAgg, run_underlying Tryd.underlying23, sizeOf, typeInfo, hi, hs']
theorem part_lims (w : World) (cs : Array Value) (o : Nat) : (part 25 cs o).run Tryd.prog w = .ok (.agg (cs.extract o (o + 4))) w := by
  obtain ⟨i, hi⟩ := Option.isSome_iff_exists.1 (show (Tryd.prog.info? 25).isSome = true by kernel_rfl)
  have hs : (Tryd.prog.info? 25).map (·.size) = some 4 := by kernel_rfl
  rw [hi] at hs
  have hs' : i.size = 4 := by simpa using hs
  simp [part, isAgg, run_underlying Tryd.underlying25, sizeOf, typeInfo, hi, hs']
theorem eq_helloH (w : World) (x y : He.H) (hx : x.Fine) (hy : y.Fine) : (Op.equalIn 10000 27 (.agg (heC x)) (.agg (heC y))).run Tryd.prog w = .ok (decide (x = y)) w := by
  have px : (part 22 (heC x) 0).run Tryd.prog w = .ok (.int .u8 (v8 x.k)) w := by
    simp [part, isAgg, run_underlying Tryd.underlying22, heC_0]
  have py : (part 22 (heC y) 0).run Tryd.prog w = .ok (.int .u8 (v8 y.k)) w := by
    simp [part, isAgg, run_underlying Tryd.underlying22, heC_0]
  rw [run_equalIn_struct w 9999 27 (heC x) (heC y) (by kernel_rfl) (by kernel_rfl), fieldsH]
  have e1 := run_equalIn_int w 9998 22 .u8 .u8 (v8 x.k) (v8 y.k) Tryd.underlying22
  have e2 := eq_bytesH w 9997 x.nn y.nn hx.n32 hy.n32
  have e3 := eq_limsH w 9997 x.l y.l
  have e4 := eq_bytesH w 9997 x.pf y.pf hx.p32 hy.p32
  have n1 : ("Kind" ≠ "_") := by decide
  have n2 : ("Nonce" ≠ "_") := by decide
  have n3 : ("Limits" ≠ "_") := by decide
  have n4 : ("Proof" ≠ "_") := by decide
  simp only [Op.eqFields, n1, n2, n3, n4, ne_eq, not_false_eq_true, if_true, Sem.run_bind, px, py, Result.andThen_ok, e1, part_bytes, part_lims, Nat.reduceAdd, ext_nn hx, ext_nn hy, ext_l hx, ext_l hy, ext_pf hx, ext_pf hy, e2, e3, e4, Sem.run_ite, Sem.run_pure]
  obtain ⟨a, b, c, d⟩ := x
  obtain ⟨a', b', c', d'⟩ := y
  simp only [He.H.mk.injEq]
  by_cases h1 : a = a'
  · subst h1
    by_cases h2 : b = b'
    · by_cases h3 : c = c'
      · by_cases h4 : d = d' <;> simp [h2, h3, h4]
      · simp [h2, h3]
    · simp [h2]
  · have hne : (v8 a == v8 a') = false := beq_eq_false_iff_ne.2 fun e => h1 (v8_inj e)
    simp [h1, hne]
section
variable {a : Act} {o : Oper}
theorem exec_neqH (x y : Operand) (t' : TypeId) (p q : He.H) (hp : p.Fine) (hq : q.Fine) (ho : o.op = .binOp .neq 27 x y t') (hx : a.eval x = .agg (heC p)) (hy : a.eval y = .agg (heC q)) (w : World) :
    (execOp a.eval o).run Tryd.prog w = .ok (.value (.bool (!decide (p = q)))) w := by
  have h1 := run_eqGuard_agg (P := Tryd.prog) w .neq 27 x y (heC p) (heC q) (by kernel_rfl)
  unfold execOp
  simp only [ho, hx, hy, Sem.run_bind, h1, Result.andThen_ok, run_neq_struct, eq_helloH w p q hp hq, Sem.run_pure]
theorem exec_eqlH (x y : Operand) (t' : TypeId) (p q : He.H) (hp : p.Fine) (hq : q.Fine) (ho : o.op = .binOp .eql 27 x y t') (hx : a.eval x = .agg (heC p)) (hy : a.eval y = .agg (heC q)) (w : World) :
    (execOp a.eval o).run Tryd.prog w = .ok (.value (.bool (decide (p = q)))) w := by
  have h1 := run_eqGuard_agg (P := Tryd.prog) w .eql 27 x y (heC p) (heC q) (by kernel_rfl)
  unfold execOp
  simp only [ho, hx, hy, Sem.run_bind, h1, Result.andThen_ok, run_eql_struct, eq_helloH w p q hp hq, Sem.run_pure]
theorem exec_neqB (x y : Operand) (t' : TypeId) (p q : List By) (hp : p.length = 32) (hq : q.length = 32) (ho : o.op = .binOp .neq 23 x y t') (hx : a.eval x = .agg (bs p)) (hy : a.eval y = .agg (bs q)) (w : World) :
    (execOp a.eval o).run Tryd.prog w = .ok (.value (.bool (!decide (p = q)))) w := by
  have h1 := run_eqGuard_agg (P := Tryd.prog) w .neq 23 x y (bs p) (bs q) (by kernel_rfl)
  unfold execOp
  simp only [ho, hx, hy, Sem.run_bind, h1, Result.andThen_ok, run_neq_struct, eq_bytesH w 9998 p q hp hq, Sem.run_pure]
theorem exec_eqlB (x y : Operand) (t' : TypeId) (p q : List By) (hp : p.length = 32) (hq : q.length = 32) (ho : o.op = .binOp .eql 23 x y t') (hx : a.eval x = .agg (bs p)) (hy : a.eval y = .agg (bs q)) (w : World) :
    (execOp a.eval o).run Tryd.prog w = .ok (.value (.bool (decide (p = q)))) w := by
  have h1 := run_eqGuard_agg (P := Tryd.prog) w .eql 23 x y (bs p) (bs q) (by kernel_rfl)
  unfold execOp
  simp only [ho, hx, hy, Sem.run_bind, h1, Result.andThen_ok, run_eql_struct, eq_bytesH w 9998 p q hp hq, Sem.run_pure]
theorem exec_neqL (x y : Operand) (t' : TypeId) (p q : He.Q4) (ho : o.op = .binOp .neq 25 x y t') (hx : a.eval x = .agg (qv p).toArray) (hy : a.eval y = .agg (qv q).toArray) (w : World) :
    (execOp a.eval o).run Tryd.prog w = .ok (.value (.bool (!decide (p = q)))) w := by
  have h1 := run_eqGuard_agg (P := Tryd.prog) w .neq 25 x y (qv p).toArray (qv q).toArray (by kernel_rfl)
  unfold execOp
  simp only [ho, hx, hy, Sem.run_bind, h1, Result.andThen_ok, run_neq_struct, eq_limsH w 9998 p q, Sem.run_pure]
end
end Go.Proofs.YtjccjlhnjihfjaaDoor
