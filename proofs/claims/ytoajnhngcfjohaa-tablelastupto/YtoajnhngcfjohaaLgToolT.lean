/-
  Single operations for drawn regions. No program in sight.
-/
import Derived.Test.YtoajnhngcfjohaaFlMem
import Derived.Test.YtoajnhngcfjohaaLgRowT
import Derived.Test.YtoajnhngcfjohaaFrSpine
import Derived.Test.YtoajnhngcfjohaaLgLoop
import Derived.Great.BuildSlice
namespace Go.Proofs.Ytoajnhngcfjohaa
open Go Go.RowKit
section
variable {P : Program} {a : Act} {o : Oper}
theorem lgPut_none (a : Act) (v : Value) : a.put none v = a := rfl
theorem lgRun_cell (ty : TypeId) (x : Operand) (p : Addr) (v : Value) (d : TypeDesc) (ho : o.op = .load ty x) (hx : a.eval x = .pointer (some p)) (hu : P.underlying ty = some d) (hd : (match d with | .struct _ | .array _ _ => true | _ => false) = false)
    (W : World) (hv : W.cell? p = some v) : (execOp a.eval o).run P W = .ok (.value v) W := by
  have hag : (isAgg ty).run P W = .ok false W := by
    unfold isAgg
    rw [Sem.run_bind, run_underlying hu W]
    cases d <;> simp_all
  unfold execOp
  simp [ho, hx, Instr.loadAt, Instr.sureAddr, loadVar, hag, hv]
theorem lgRun_at (t e : TypeId) (m : Nat) (x ix : Operand) (g off len cap j : Nat) (ho : o.op = .indexAddr t x ix) (hx : a.eval x = .slice (some ⟨g, off, none⟩) len cap) (hix : a.eval ix = .int .i64 (j : Int))
    (hu : P.underlying t = some (.slice e)) (hi : (P.info? e).map (·.size) = some m) (hj : j < len) (W : World) : (execOp a.eval o).run P W = .ok (.value (.pointer (some ⟨g, off + j * m, none⟩))) W := by
  have hsz : (sizeOf e).run P W = .ok m W := by
    cases hq : P.info? e with
    | none => simp [hq] at hi
    | some i =>
      have : i.size = m := by simpa [hq] using hi
      simp [sizeOf, typeInfo, hq, this]
  unfold execOp
  simp [ho, hx, hix, Instr.indexAt, asIntOf, run_underlying hu, hj, hsz, Addr.add_mid]
theorem lgRun_store (ty : TypeId) (x y : Operand) (p : Addr) (z : Value) (old : Value) (h1 : z.oneCell' = true) (ho : o.op = .store ty x y) (hx : a.eval x = .pointer (some p)) (hy : a.eval y = z) (hi : (P.info? ty).map (·.size) = some 1) (w : World)
    (hc : w.cell? p = some old) (hf : w.frozen? p = false) : (execOp a.eval o).run P w = .ok .skip (w.setCell p z) := by
  have hsz : (sizeOf ty).run P w = .ok 1 w := by
    cases hq : P.info? ty with
    | none => simp [hq] at hi
    | some i =>
      have : i.size = 1 := by simpa [hq] using hi
      simp [sizeOf, typeInfo, hq, this]
  have hz : z.cells = #[z] := by cases z <;> first | rfl | simp [Value.oneCell'] at h1
  unfold execOp
  simp only [ho, hx, hy, Instr.storeAt, Instr.sureAddr, storeVar, Sem.run_bind, Sem.run_pure, Result.andThen_ok, hsz]
  simp [hz, storeCells, Addr.add_zero', run_store P w p z _ (by cases z <;> first | rfl | simp [Value.oneCell'] at h1), hc, hf]
theorem val_eq {P : Program} {a : Act} {o : Oper} {k : IntKind} {x y : Int} {W : World} (h : (execOp a.eval o).run P W = .ok (.value (.int k x)) W) (e : x = y) : (execOp a.eval o).run P W = .ok (.value (.int k y)) W := by rw [h, e]
theorem lgRun_sub (t t' : TypeId) (x y : Operand) (m r d : Nat) (hd : r + d = m) (hm : m ≤ 140737488355328) (ho : o.op = .binOp .sub t x y t') (hx : a.eval x = .int .i64 (m : Int)) (hy : a.eval y = .int .i64 (r : Int)) (W : World) :
    (execOp a.eval o).run P W = .ok (.value (.int .i64 (d : Int))) W := by
  have hw : IntKind.i64.wrap ((m : Int) - (r : Int)) = (d : Int) := by rw [IntKind.wrap_i64]; omega
  unfold execOp
  simp only [ho, hx, hy]
  go_simp
theorem lgRun_quo4 (t t' : TypeId) (x y : Operand) (m c q : Int) (hq : Int.tdiv m c = q) (hw : IntKind.u64.wrap q = q) (hc : ¬ c = 0) (ho : o.op = .binOp .quo t x y t') (hx : a.eval x = .int .u64 m) (hy : a.eval y = .int .u64 c) (W : World) :
    (execOp a.eval o).run P W = .ok (.value (.int .u64 q)) W := by
  unfold execOp
  simp only [ho, hx, hy]
  go_simp
theorem lgRun_build1 (t e : TypeId) (x : Operand) (cs : Array Value) (ie : TypeInfo) (z : Value) (n : Nat) (ho : o.op = .buildSlice t 1 #[(0, x)]) (hx : a.eval x = .agg cs) (hu : P.underlying t = some (.slice e)) (hie : P.info? e = some ie) (hz : ie.zero = some z) (hn : ie.size = n) (h0 : 0 < n) (h1 : n < 100)
    (hf : Instr.fill (fun i => some (i * n, n)) ((Array.range (1 * n)).map (z.cells[· % z.cells.size]!)) [(0, .agg cs)] = some cs) (W : World) :
    (execOp a.eval o).run P W = .ok (.value (.slice (some ⟨W.heap.size, 0, none⟩) 1 1)) (W.alloc (.cells cs e)) := by
  subst hn
  unfold execOp
  have := run_buildSlice (P := P) W t e 1 #[(0, .agg cs)] cs ie z hu hie hz (by omega) (by omega) hf
  simp only [ho, List.map_toArray, List.map_cons, List.map_nil, hx, Sem.run_bind, this, Result.andThen_ok]
  rfl
theorem lgRun_append (ts : Array TypeId) (s y : Operand) (v u v' : Value) (W W' : World) (ho : o.op = .call { callee := .builtin .append, args := #[s, y], argTypes := ts }) (hs : a.eval s = v) (hy : a.eval y = u) (h : (Builtin.append_ ts o.type #[v, u]).run P W = .ok v' W') :
    (execOp a.eval o).run P W = .ok (.value v') W' := by
  unfold execOp
  simp only [ho, resolve, invoke, builtin, Sem.run_bind, Sem.run_pure, Result.andThen_ok, List.map_toArray, List.map_cons, List.map_nil, hs, hy, h]
theorem lgRun_copyB (ts : Array TypeId) (s y : Operand) (v u v' : Value) (W W' : World) (ho : o.op = .call { callee := .builtin .copy, args := #[s, y], argTypes := ts }) (hs : a.eval s = v) (hy : a.eval y = u) (h : (Builtin.copy_ ts o.type #[v, u]).run P W = .ok v' W') :
    (execOp a.eval o).run P W = .ok (.value v') W' := by
  unfold execOp
  simp only [ho, resolve, invoke, builtin, Sem.run_bind, Sem.run_pure, Result.andThen_ok, List.map_toArray, List.map_cons, List.map_nil, hs, hy, h]
theorem wpL_append {ops : Array Oper} {rest : List Oper} {o : Oper} {a : Act} {w : World} {Q : Exit → Act → World → Prop} (hgd : o.guard = none) (s y : Operand) (ts : Array TypeId) (ho : o.op = .call { callee := .builtin .append, args := #[s, y], argTypes := ts })
    (v u v' : Value) (W' : World) (hs : a.eval s = v) (hy : a.eval y = u) (h : (Builtin.append_ ts o.type #[v, u]).run P w = .ok v' W') (k : wpList P ops Q rest (a.put o.dst v') W') : wpList P ops Q (o :: rest) a w :=
  wpList_plain hgd fun _ hK => by
    unfold Oper.wp
    rw [lgRun_append ts s y v u v' w W' ho hs hy h]
    exact hK _ _ k
theorem wpI_append {F : Fence} {n : Nat} {ops : Array Oper} {rest : List Oper} {o : Oper} {a : Act} {w : World} {Q : Exit → Act → World → Prop} (hgd : o.guard = none) (s y : Operand) (ts : Array TypeId) (ho : o.op = .call { callee := .builtin .append, args := #[s, y], argTypes := ts })
    (v u v' : Value) (W' : World) (hs : a.eval s = v) (hy : a.eval y = u) (h : (Builtin.append_ ts o.type #[v, u]).run P w = .ok v' W') (k : wpListIn F n P ops Q rest (a.put o.dst v') W') : wpListIn F n P ops Q (o :: rest) a w := by
  refine wpListIn_plain hgd fun K hK' => ?_
  unfold Oper.wpIn
  refine ⟨?_, ?_⟩
  · simp [Oper.about, ho, resolve, Target.leads, Sem.run_pure]
  · rw [Oper.semAt_plain F _ _ (by rw [ho]; intro c hc'; cases hc')]
    rw [lgRun_append ts s y v u v' w W' ho hs hy h]
    exact hK' _ _ k
theorem lgRun_copy (w : World) (dT sT ty elem : TypeId) (g o dLen dCap : Nat) (a : Addr) (sLen sCap size : Nat) (cur : Array Value) (t : TypeId) (cs : List Value)
    (hu : P.underlying dT = some (.slice elem)) (hs : (P.info? elem).map (·.size) = some size)
    (hg : w.heap[g]? = some (.cells cur t (0, 0))) (hn : cs.length = Nat.min sLen dLen * size)
    (hsrc : ∀ j v, cs[j]? = some v → w.cell? (a.add j) = some v) (hfit : o + cs.length ≤ cur.size) (h1 : ∀ v ∈ cs, v.oneCell' = true) :
    (Builtin.copy_ #[dT, sT] ty #[.slice (some ⟨g, o, none⟩) dLen dCap, .slice (some a) sLen sCap]).run P w =
      .ok (goInt (Nat.min sLen dLen)) (w.setRow g (cur.toList.take o ++ cs ++ cur.toList.drop (o + cs.length)).toArray) := by
  have hl := run_loadCells_list (P := P) w a cs hsrc
  have hst := run_storeCells_at P g o t cs 0 cur w hg (by simpa using hfit) h1
  rw [hn] at hl
  cases hq : P.info? elem with
  | none => simp [hq] at hs
  | some i =>
    have hi : i.size = size := by simpa [hq] using hs
    subst hi
    simp [Builtin.copy_, run_underlying hu, Builtin.lenOf, Builtin.firstCells, sizeOf, typeInfo, hq, hl, hst]
theorem lgRun_row (ty : TypeId) (x : Operand) (ho : o.op = .load ty x) (g : Nat) (hx : a.eval x = .pointer (some ⟨g, 0, none⟩)) (t : TypeId) (cs : Array Value) (n : Nat) (fs : Array Field)
    (hu : P.underlying ty = some (.struct fs)) (hi : (P.info? ty).map (·.size) = some n) (hc : cs.size = n) (W : World) (hg : Row W g t cs) : (execOp a.eval o).run P W = .ok (.value (.agg cs)) W := by
  unfold execOp
  simp only [ho, hx, Instr.loadAt, Instr.sureAddr, Sem.run_bind, Sem.run_pure, Result.andThen_ok, run_loadVar_row W g t ty cs (0, 0) _ hg hu rfl (by rw [hc]; exact hi)]
theorem RowO.one {w : World} {e : TypeId} {size : Nat} {v : Value} {n : Nat} {xs : List Value} (h : RowO w e size v n xs) : v.oneCell' = true := by
  obtain ⟨a, c, rfl, _⟩ := h.shape
  rfl
theorem KeepP.mono {st st' : Nat → Prop} {W W' : World} (h : KeepP st W W') (hs : ∀ k, st k → st' k) : KeepP st' W W' := ⟨h.os, h.tape, h.output, h.size, fun k hk hn => h.block k hk (fun e => hn (hs k e))⟩
end
end Go.Proofs.Ytoajnhngcfjohaa
