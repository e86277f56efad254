/-
  Laws for walks by hand: operations of a region that draws its order; copies into a whole row.
-/
import Derived.Test.YtlicflmpakkccaaGreatDoorGv18
namespace Go.Proofs.YtlicflmpakkccaaGreatDoor
open Go Go.RowKit

section
variable {P : Program} {ops : Array Oper} {Q : Exit → Act → World → Prop} {md : Region.Mode} {S : World → Prop} {fuel : Nat} {listed : Array Bool} {a : Act} {w : World}

/-- What yields its value in every world that S holds of is taken first. -/
theorem H_take {o : Oper} (i : Nat) (v : Value) (hi : ops[i]? = some o) (he : ∀ W, S W → (execOp a.eval o).run P W = .ok (.value v) W)
    (hs : Region.noSelect ops = true) (hf : Region.free md ops listed i = true) (hr : (Region.ready md ops listed).contains i = true)
    (hQ : ∀ c a v w, Q (.panic c) (a.put o.dst v) w → Q (.panic c) a w) (hw : Region.wanted o (yielded ops a.tmps) = true) (hS : S w)
    (h : wpAnyH P md ops Q S fuel (listed.setIfInBounds i true) (a.put o.dst v) w) : wpAnyH P md ops Q S (fuel + 1) listed a w :=
  wpAnyH_take hi hs hf hr (fun c a w => hQ c a _ w) (.inl ⟨hw, he⟩) hS h

/-- One operation: a value, and a world. -/
theorem O_value {o : Oper} {i : Nat} {K : Act → World → Prop} (hi : ops[i]? = some o) (hw : Region.wanted o (yielded ops a.tmps) = true) (v : Value) (w' : World)
    (he : (execOp a.eval o).run P w = .ok (.value v) w') (h : K (a.put o.dst v) w') : wpOp P ops Q i K a w := by
  unfold wpOp
  simp only [hi, hw, if_true]
  refine .inl ?_
  unfold Oper.wp
  rw [he]
  exact h
theorem O_skip {o : Oper} {i : Nat} {K : Act → World → Prop} (hi : ops[i]? = some o) (hw : Region.wanted o (yielded ops a.tmps) = true) (w' : World)
    (he : (execOp a.eval o).run P w = .ok .skip w') (h : K (a.put o.dst undef) w') : wpOp P ops Q i K a w := by
  unfold wpOp
  simp only [hi, hw, if_true]
  refine .inl ?_
  unfold Oper.wp
  rw [he]
  exact h
theorem O_call {o : Oper} {i : Nat} {K : Act → World → Prop} (hi : ops[i]? = some o) (hw : Region.wanted o (yielded ops a.tmps) = true) (f : Nat) (args : Array Value)
    (he : (execOp a.eval o).run P w = .ok (.enter f args) w) (hc : Calls P f args w fun e w' => ∃ v, e = .returned v ∧ K (a.put o.dst v) w') : wpOp P ops Q i K a w := by
  unfold wpOp
  simp only [hi, hw, if_true]
  refine .inl ?_
  unfold Oper.wp
  rw [he]
  exact hc.mono (by rintro e w' ⟨v, rfl, h⟩; exact h)

/-- What comes up alone. -/
theorem H_one (i : Nat) (hr : Region.ready md ops listed = [i]) (h : wpOp P ops Q i (fun a' w' => S w' ∧ wpAnyH P md ops Q S fuel (listed.setIfInBounds i true) a' w') a w) : wpAnyH P md ops Q S (fuel + 1) listed a w :=
  wpAnyH_all hr (by simp) (fun j hj => by obtain rfl : j = i := by simpa using hj
                                          exact h)

theorem exec_alloc_row {o : Oper} (t : TypeId) (ho : o.op = .alloc t) (cs : Array Value) (hz : (P.info? t).map (·.zero) = some (some (.agg cs))) :
    (execOp a.eval o).run P w = .ok (.value (.pointer (some ⟨w.heap.size, 0, none⟩))) (w.alloc (.cells cs t)) := by
  have hzv : (zeroValue t).run P w = .ok (.agg cs) w := by
    cases hq : P.info? t with
    | none => simp [hq] at hz
    | some i =>
      have : i.zero = some (.agg cs) := by simpa [hq] using hz
      simp [zeroValue, typeInfo, hq, this]
  unfold execOp
  simp only [ho, Instr.alloc, Sem.run_bind, hzv, Result.andThen_ok, newVar, newRow, Value.cells, run_newObj_alloc, Sem.run_pure]

theorem exec_copy {o : Oper} (s x : Operand) (t1 t2 : TypeId) (ho : o.op = .call { callee := .builtin .copy, args := #[s, x], argTypes := #[t1, t2] }) (vs vx : Value) (hs : a.eval s = vs) (hx : a.eval x = vx)
    (v : Value) (w' : World) (hr : (Builtin.copy_ #[t1, t2] o.type #[vs, vx]).run P w = .ok v w') : (execOp a.eval o).run P w = .ok (.value v) w' := by
  unfold execOp
  simp only [ho, resolve, invoke, builtin, Sem.run_bind, Sem.run_pure, Result.andThen_ok, List.map_toArray, List.map_cons, List.map_nil, hs, hx, hr]

theorem wpList_copy {rest : List Oper} {o : Oper} (hgd : o.guard = none) (s x : Operand) (t1 t2 : TypeId) (ho : o.op = .call { callee := .builtin .copy, args := #[s, x], argTypes := #[t1, t2] }) (vs vx : Value) (hs : a.eval s = vs) (hx : a.eval x = vx)
    (v : Value) (w' : World) (hr : (Builtin.copy_ #[t1, t2] o.type #[vs, vx]).run P w = .ok v w') (h : wpList P ops Q rest (a.put o.dst v) w') : wpList P ops Q (o :: rest) a w :=
  wpList_plain hgd fun _ hK => by
    unfold Oper.wp
    rw [exec_copy s x t1 t2 ho vs vx hs hx v w' hr]
    exact hK _ _ h
end

/-- A slice of bytes is copied into a whole row, which it does not lie in. -/
theorem copy_sl (w : World) (g : Nat) (t : TypeId) (old : List By) (n : Nat) (q : SL) (hr : Row w g t (bs old)) (hn : old.length = n) (hq : q.Ok w) (hl : q.len ≤ n) :
    ∃ w', (Builtin.copy_ #[22, 22] 3 #[.slice (some ⟨g, 0, none⟩) n n, .slice q.a q.len q.cap]).run Tryz.prog w = .ok (goInt q.len) w' ∧ Row w' g t (bs (q.b ++ old.drop q.len)) ∧ Keep1 g w w' := by
  by_cases h0 : q.len = 0
  · have hb0 : q.b = [] := List.eq_nil_of_length_eq_zero (by rw [hq.hb, h0])
    refine ⟨w, ?_, ?_, Keep1.refl _ _⟩
    · rw [h0]
      exact run_copy_none _ _ _ _ 5 _ _ _ _ _ _ Tryz.underlying22 (by kernel_rfl) (by simp)
    · rw [hb0, h0]
      exact hr
  · have hpos : 0 < q.len := by omega
    have hl2 : (bl q.b).length = q.len := by simp only [bl, List.length_map, hq.hb]
    have := run_copy_row (P := Tryz.prog) w 22 22 3 5 g 0 n n ⟨q.g, q.off, none⟩ q.len q.cap (bs old) t (bl q.b) Tryz.underlying22 (by kernel_rfl) hr (by rw [hl2]; exact (Nat.min_eq_left (by omega)).symm)
      (fun j v hv => by
        have hj : j < q.len := by have := (List.getElem?_eq_some_iff.1 hv).1; rw [hl2] at this; exact this
        rw [Addr.add_mid, hq.cell j hj, ← hv]
        unfold bl gb
        rw [List.getElem?_map, List.getElem?_eq_getElem (by rw [hq.hb]; exact hj)]
        rfl)
      (by rw [hl2, bs_size, hn]; omega) (fun v hv => by
        obtain ⟨z, _, rfl⟩ := List.mem_map.1 hv
        rfl)
    rw [hl2, ← hq.at_ hpos] at this
    refine ⟨_, this, ?_, Keep1.setRow _ _ _⟩
    have h2 := hr.put (((bs old).toList.take 0 ++ bl q.b ++ (bs old).toList.drop (0 + q.len)).toArray)
    have e : ((bs old).toList.take 0 ++ bl q.b ++ (bs old).toList.drop (0 + q.len)).toArray = bs (q.b ++ old.drop q.len) := by
      apply Array.ext'
      simp only [bs, bl, List.take_zero, List.nil_append, Nat.zero_add, List.map_append, List.map_drop]
    rw [e] at h2
    first
      | exact h2
      | (rw [← e]; rw [e]; exact h2)
end Go.Proofs.YtlicflmpakkccaaGreatDoor
