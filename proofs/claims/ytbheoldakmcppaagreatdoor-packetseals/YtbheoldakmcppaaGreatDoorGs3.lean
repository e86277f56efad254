/-
  Out of ChaPhase, ChaOps, ChaGlob, ChaRot.
-/
import Derived.Test.YtbheoldakmcppaaGreatDoorGs4
import Derived.Test.YtbheoldakmcppaaGreatDoorGs2
import Derived.Test.YtbheoldakmcppaaGreatDoorRows
import Derived.Deep.QuietTactic
import Derived.BigQuiet

/-! A region that draws its order and has one operation, c, that parts it in two: what is read ahead of c may be taken first where S holds until c has come up. -/
namespace Go.Proofs.YtbheoldakmcppaaGreatDoor
open Go Go.RowKit

section
variable {P : Program} {ops : Array Oper} {Q : Exit → Act → World → Prop} {md : Region.Mode} {c : Nat} {S : Bool → World → Prop}

/-- Whatever order is picked; behind each operation S holds, of whether c has come up. -/
def wpTwo (P : Program) (md : Region.Mode) (ops : Array Oper) (Q : Exit → Act → World → Prop) (c : Nat) (S : Bool → World → Prop) : Nat → Array Bool → Act → World → Prop
  | 0, l, a, w => Region.ready md ops l = [] ∧ Q .normal a w
  | k + 1, l, a, w => (Region.ready md ops l = [] → Q .normal a w) ∧
      ∀ i ∈ Region.ready md ops l, wpOp P ops Q i (fun a' w' => S ((l.setIfInBounds i true).getD c true) w' ∧ wpTwo P md ops Q c S k (l.setIfInBounds i true) a' w') a w

theorem wpTwo_any : ∀ (k : Nat) (l : Array Bool) (a : Act) (w : World), wpTwo P md ops Q c S k l a w → wpAny P md ops Q k l a w
  | 0, _, _, _, h => h
  | k + 1, _, _, _, h => ⟨h.1, fun i hi => wpOp_mono (fun a' w' h' => wpTwo_any k _ a' w' h'.2) (h.2 i hi)⟩

theorem two_begin {id : Nat} {a : Act} {w : World} (hm : P.follows .mixedOrders = true) (h : wpTwo P .any ops Q c S ops.size (Array.replicate ops.size false) a w.drew) : (Code.region id ops true).wp P Q a w :=
  wp_region_any hm (wpTwo_any _ _ _ _ h)

/-- What may be taken first: while i has not come up, Inv holds, and under Inv S tells what i needs. -/
theorem two_first {i : Nat} {o : Oper} {v : Value} {S' : World → Prop} {Inv : Array Bool → Prop} (hi : ops[i]? = some o) (hsel : ∀ (j : Nat) (o : Oper) cs b, ops[j]? = some o → o.op ≠ .select cs b)
    (hQ : ∀ c a w, Q (.panic c) (a.put o.dst v) w → Q (.panic c) a w) (hic : i ≠ c)
    (hInv : ∀ l j, Inv l → l.getD i true = false → i < l.size → j ∈ Region.ready md ops l → j ≠ i → Inv (l.setIfInBounds j true)) (hS' : ∀ l w, Inv l → S (l.getD c true) w → S' w) :
    ∀ (k : Nat) (l : Array Bool) (a : Act) (w : World),
      (∀ j oj, ops[j]? = some oj → j ≠ i → l.getD j true = false → (∀ e ∈ oj.after, Region.binds md e = true → e.on ≠ i) → o.apart ops oj = true) →
      Inv l → i < l.size → i ∈ Region.ready md ops l → YieldsIf P ops S' o v a → S (l.getD c true) w →
      wpTwo P md ops Q c S k (l.setIfInBounds i true) (a.put o.dst v) w → wpTwo P md ops Q c S (k + 1) l a w := by
  intro k
  induction k with
  | zero =>
    intro l a w _ hl hz hr hy hS H
    refine ⟨fun h => absurd hr (by rw [h]; simp), fun j hj => ?_⟩
    rcases Nat.decEq j i with hne | rfl
    · have := ready_mono hj hne
      rw [H.1] at this
      cases this
    · exact hy.wpOp hi (hS' l w hl hS) ⟨by rw [getD_set_ne true hic]; exact hS, H⟩
  | succ k ih =>
    intro l a w hfree hl hz hr hy hS H
    refine ⟨fun h => absurd hr (by rw [h]; simp), fun j hj => ?_⟩
    rcases Nat.decEq j i with hne | rfl
    · obtain ⟨hun, oj, hoj, hall⟩ := mem_ready.1 hj
      have hi0 := (mem_ready.1 hr).1
      have hno : ∀ e ∈ oj.after, Region.binds md e = true → e.on ≠ i := by
        intro e he hb hei
        have h1 := hall e he hb
        rw [hei] at h1
        simp [hz] at h1 hi0
        rw [hi0] at h1
        cases h1
      have h2 := wpOp_putIf hoj (hfree j oj hoj hne hun hno) (fun cs b => hsel i o cs b hi) (fun cs b => hsel j oj cs b hoj) hQ hy (H.2 j (ready_mono hj hne))
      refine wpOp_mono (fun a' w' h3 => ?_) h2
      obtain ⟨hy', hS1, h4⟩ := h3
      rw [Array.setIfInBounds_comm _ _ (Ne.symm hne), getD_set_ne true hic] at hS1
      rw [Array.setIfInBounds_comm _ _ (Ne.symm hne)] at h4
      refine ⟨hS1, ih (l.setIfInBounds j true) a' w' ?_ (hInv l j hl hi0 hz hj hne) (by simpa using hz) (ready_mono hr (Ne.symm hne)) hy' hS1 h4⟩
      intro m om hm hmi hmu hmn
      refine hfree m om hm hmi ?_ hmn
      rcases Nat.decEq j m with hjm | rfl
      · rw [getD_set_ne true hjm] at hmu; exact hmu
      · exact hun
    · exact hy.wpOp hi (hS' l w hl hS) ⟨by rw [getD_set_ne true hic]; exact hS, H⟩

/-- Taken first, at any time: what S tells behind c too. -/
theorem two_late {i : Nat} {o : Oper} {v : Value} {k : Nat} {l : Array Bool} {a : Act} {w : World} (b : Bool) (hb : l.getD c true = b) (hi : ops[i]? = some o) (hSS : ∀ w, S false w → S true w) (hic : i ≠ c)
    (hs : Region.noSelect ops = true) (hf : Region.free md ops l i = true) (hr : (Region.ready md ops l).contains i = true) (hz : i < l.size)
    (hQ : ∀ c a w, Q (.panic c) (a.put o.dst v) w → Q (.panic c) a w) (hw : Region.wanted o (yielded ops a.tmps) = true) (hy : ∀ W, S true W → (execOp a.eval o).run P W = .ok (.value v) W) (hS : S b w)
    (h : wpTwo P md ops Q c S k (l.setIfInBounds i true) (a.put o.dst v) w) : wpTwo P md ops Q c S (k + 1) l a w :=
  two_first (Inv := fun _ => True) (S' := S true) hi (Region.noSelect_spec hs) hQ hic (fun _ _ _ _ _ _ _ => trivial) (fun l w _ h => by cases hb : l.getD c true <;> rw [hb] at h; exact hSS _ h; exact h) k l a w
    (Region.free_spec hi hf) trivial hz (by simpa using hr) (.inl ⟨hw, hy⟩) (by rw [hb]; exact hS) h

/-- Taken first, ahead of c, which waits for it. -/
theorem two_early {i : Nat} {o oc : Oper} {v : Value} {k : Nat} {l : Array Bool} {a : Act} {w : World} (hi : ops[i]? = some o) (hc : ops[c]? = some oc) (hwait : (oc.after.any fun e => Region.binds md e && e.on == i) = true) (hic : i ≠ c)
    (hs : Region.noSelect ops = true) (hf : Region.free md ops l i = true) (hr : (Region.ready md ops l).contains i = true) (hz : i < l.size) (hcl : l.getD c true = false)
    (hQ : ∀ c a w, Q (.panic c) (a.put o.dst v) w → Q (.panic c) a w) (hw : Region.wanted o (yielded ops a.tmps) = true) (hy : ∀ W, S false W → (execOp a.eval o).run P W = .ok (.value v) W) (hS : S false w)
    (h : wpTwo P md ops Q c S k (l.setIfInBounds i true) (a.put o.dst v) w) : wpTwo P md ops Q c S (k + 1) l a w :=
  two_first (Inv := fun l => l.getD c true = false) (S' := S false) hi (Region.noSelect_spec hs) hQ hic
    (fun l j hl hi0 hz hj _ => by
      rcases Nat.decEq j c with hjc | rfl
      · rw [getD_set_ne true hjc]; exact hl
      · exfalso
        obtain ⟨_, oj, hoj, hall⟩ := mem_ready.1 hj
        obtain rfl := Option.some.inj (hc.symm.trans hoj)
        obtain ⟨e, he, hb⟩ := Array.any_eq_true'.1 hwait
        simp only [Bool.and_eq_true, beq_iff_eq] at hb
        have h1 := hall e he hb.1
        rw [hb.2] at h1
        simp [hz] at h1 hi0
        rw [hi0] at h1
        cases h1)
    (fun l w hl h => by rw [hl] at h; exact h) k l a w
    (Region.free_spec hi hf) hcl hz (by simpa using hr) (.inl ⟨hw, hy⟩) (by rw [hcl]; exact hS) h

/-- What comes up alone. -/
theorem two_alone {i : Nat} {o : Oper} {k : Nat} {l : Array Bool} {a : Act} {w : World} (b : Bool) (hb : (l.setIfInBounds i true).getD c true = b) (hi : ops[i]? = some o) (hr : Region.ready md ops l = [i]) (hw : Region.wanted o (yielded ops a.tmps) = true)
    (h : o.wp P a w (fun a' w' => S b w' ∧ wpTwo P md ops Q c S k (l.setIfInBounds i true) a' w') Q) : wpTwo P md ops Q c S (k + 1) l a w := by
  subst hb
  refine ⟨fun h0 => by rw [hr] at h0; simp at h0, fun j hj => ?_⟩
  rw [hr] at hj
  obtain rfl : j = i := by simpa using hj
  unfold wpOp
  simp only [hi, hw, if_true]
  exact .inl h
theorem two_done {l : Array Bool} {a : Act} {w : World} (hr : Region.ready md ops l = []) (h : Q .normal a w) : ∀ k, wpTwo P md ops Q c S k l a w
  | 0 => ⟨hr, h⟩
  | _ + 1 => ⟨fun _ => h, by rw [hr]; simp⟩
end
end Go.Proofs.YtbheoldakmcppaaGreatDoor

/-! Single operations, as a walk by hand asks them. -/
namespace Go.Proofs.YtbheoldakmcppaaGreatDoor
open Go Go.RowKit

section
variable {P : Program} {a : Act} {o : Oper}
theorem run_addr (t e : TypeId) (n : Nat) (x ix : Operand) (g j : Nat) (ho : o.op = .indexAddr t x ix) (hx : a.eval x = .pointer (some ⟨g, 0, none⟩)) (hix : a.eval ix = .int .i64 (j : Int))
    (hu : P.underlying t = some (.array n e)) (hi : (P.info? e).map (·.size) = some 1) (hj : j < n) (W : World) : (execOp a.eval o).run P W = .ok (.value (.pointer (some ⟨g, j, none⟩))) W := by
  have hsz : (sizeOf e).run P W = .ok 1 W := by
    cases hq : P.info? e with
    | none => simp [hq] at hi
    | some i =>
      have : i.size = 1 := by simpa [hq] using hi
      simp [sizeOf, typeInfo, hq, this]
  unfold execOp
  simp [ho, hx, hix, Instr.indexAt, asIntOf, Instr.sureAddr, run_underlying hu, hj, hsz, Addr.add]
  omega
theorem run_cell (ty : TypeId) (x : Operand) (p : Addr) (v : Value) (d : TypeDesc) (ho : o.op = .load ty x) (hx : a.eval x = .pointer (some p)) (hu : P.underlying ty = some d) (hd : (match d with | .struct _ | .array _ _ => true | _ => false) = false)
    (W : World) (hv : W.cell? p = some v) : (execOp a.eval o).run P W = .ok (.value v) W := by
  have hag : (isAgg ty).run P W = .ok false W := by
    unfold isAgg
    rw [Sem.run_bind, run_underlying hu W]
    cases d <;> simp_all
  unfold execOp
  simp [ho, hx, Instr.loadAt, Instr.sureAddr, loadVar, hag, hv]
theorem run_move (x : Operand) (v : Value) (ho : o.op = .move x) (hx : a.eval x = v) (W : World) : (execOp a.eval o).run P W = .ok (.value v) W := by
  unfold execOp
  simp [ho, hx]
theorem run_extract (x : Operand) (j : Nat) (vs : Array Value) (v : Value) (ho : o.op = .extract x j) (hx : a.eval x = .tuple vs) (hv : vs[j]? = some v) (W : World) : (execOp a.eval o).run P W = .ok (.value v) W := by
  unfold execOp
  simp [ho, hx, Instr.extract, hv]
/-- An element of an array that is a value, itself an array. -/
theorem run_part (t e : TypeId) (n m : Nat) (e' : TypeId) (cs : Array Value) (k : Nat) (hu : P.underlying t = some (.array n e)) (he : P.underlying e = some (.array m e')) (hi : (P.info? e).map (·.size) = some m) (hk : k < n) (w : World) :
    (Instr.index t (.agg cs) (.int .i64 (k : Int))).run P w = .ok (.agg (cs.extract (k * m) (k * m + m))) w := by
  have hsz : (sizeOf e).run P w = .ok m w := by
    cases hq : P.info? e with
    | none => simp [hq] at hi
    | some i =>
      have : i.size = m := by simpa [hq] using hi
      simp [sizeOf, typeInfo, hq, this]
  have hag : (isAgg e).run P w = .ok true w := by
    unfold isAgg
    rw [Sem.run_bind, run_underlying he w]
    rfl
  simp [Instr.index, asIntOf, run_underlying hu, hk, hsz, part, hag]
theorem index_part {ops : Array Oper} {rest : List Oper} {w : World} {Q : Exit → Act → World → Prop} (hgd : o.guard = none) (t : TypeId) (x ix : Operand) (ho : o.op = .index t x ix) (e : TypeId) (n m : Nat) (e' : TypeId) (cs cs' : Array Value) (k : Nat) (hx : a.eval x = .agg cs) (hix : a.eval ix = .int .i64 (k : Int))
    (hu : P.underlying t = some (.array n e)) (he : P.underlying e = some (.array m e')) (hi : (P.info? e).map (·.size) = some m) (hk : k < n) (hcs : cs.extract (k * m) (k * m + m) = cs')
    (h : wpList P ops Q rest (a.put o.dst (.agg cs')) w) : wpList P ops Q (o :: rest) a w :=
  wpList_plain hgd fun _ hK => by
    unfold Oper.wp execOp
    simp only [ho, hx, hix, Sem.run_bind, run_part t e n m e' cs k hu he hi hk w, Result.andThen_ok, Sem.run_pure, hcs]
    exact hK _ _ h
theorem index_one {ops : Array Oper} {rest : List Oper} {w : World} {Q : Exit → Act → World → Prop} (hgd : o.guard = none) (t : TypeId) (x ix : Operand) (ho : o.op = .index t x ix) (e : TypeId) (n : Nat) (d : TypeDesc) (cs : Array Value) (v : Value) (k : Nat) (hx : a.eval x = .agg cs) (hix : a.eval ix = .int .i64 (k : Int))
    (hu : P.underlying t = some (.array n e)) (he : P.underlying e = some d) (hd : (match d with | .struct _ | .array _ _ => true | _ => false) = false) (hi : (P.info? e).map (·.size) = some 1) (hk : k < n) (hv : cs[k]? = some v)
    (h : wpList P ops Q rest (a.put o.dst v) w) : wpList P ops Q (o :: rest) a w :=
  wpList_plain hgd fun _ hK => by
    unfold Oper.wp execOp
    simp only [ho, hx, hix, Sem.run_bind, run_index t e n d cs k v hu he hd hi hk hv w, Result.andThen_ok, Sem.run_pure]
    exact hK _ _ h
theorem store_cell_wp {w : World} {K : Act → World → Prop} {Q : Exit → Act → World → Prop} (ty : TypeId) (x y : Operand) (p : Addr) (k : IntKind) (z : Int) (old : Value) (ho : o.op = .store ty x y) (hx : a.eval x = .pointer (some p)) (hy : a.eval y = .int k z) (hi : (P.info? ty).map (·.size) = some 1)
    (hc : w.cell? p = some old) (hf : w.frozen? p = false) (h : K (a.put o.dst undef) (w.setCell p (.int k z))) : o.wp P a w K Q := by
  have hsz : (sizeOf ty).run P w = .ok 1 w := by
    cases hq : P.info? ty with
    | none => simp [hq] at hi
    | some i =>
      have : i.size = 1 := by simpa [hq] using hi
      simp [sizeOf, typeInfo, hq, this]
  unfold Oper.wp execOp
  simp only [ho, hx, hy, Instr.storeAt, Instr.sureAddr, storeVar, Sem.run_bind, Sem.run_pure, Result.andThen_ok, hsz]
  simp [Value.cells, storeCells, Addr.add_zero', run_store P w p (.int k z) _ rfl, hc, hf]
  exact h
theorem call_wp {w : World} {K : Act → World → Prop} {Q : Exit → Act → World → Prop} (f : Nat) (args : Array Value) (he : (execOp a.eval o).run P w = .ok (.enter f args) w)
    (hc : Calls P f args w fun e w' => ∃ v, e = .returned v ∧ K (a.put o.dst v) w') : o.wp P a w K Q := by
  unfold Oper.wp
  rw [he]
  exact hc.mono (by rintro e w' ⟨v, rfl, h⟩; exact h)
/-- What comes up alone, and stores one cell. -/
theorem two_store {P : Program} {ops : Array Oper} {Q : Exit → Act → World → Prop} {md : Region.Mode} {c : Nat} {S : Bool → World → Prop} {i : Nat} {o : Oper} {n : Nat} {l : Array Bool} {a : Act} {w : World} (b : Bool) (hb : (l.setIfInBounds i true).getD c true = b) (hi : ops[i]? = some o) (hr : Region.ready md ops l = [i]) (hw : Region.wanted o (yielded ops a.tmps) = true)
    (ty : TypeId) (x y : Operand) (p : Addr) (k : IntKind) (z : Int) (old : Value) (ho : o.op = .store ty x y) (hx : a.eval x = .pointer (some p)) (hy : a.eval y = .int k z) (hin : (P.info? ty).map (·.size) = some 1)
    (hc : w.cell? p = some old) (hf : w.frozen? p = false) (hS : S b (w.setCell p (.int k z)))
    (h : wpTwo P md ops Q c S n (l.setIfInBounds i true) (a.put o.dst undef) (w.setCell p (.int k z))) : wpTwo P md ops Q c S (n + 1) l a w :=
  two_alone b hb hi hr hw (store_cell_wp ty x y p k z old ho hx hy hin hc hf ⟨hS, h⟩)
end
end Go.Proofs.YtbheoldakmcppaaGreatDoor

/-! What the package's variables hold. -/
namespace Go.Proofs.YtbheoldakmcppaaGreatDoor
open Go Go.RowKit

/-- The cells of numbers. -/
def is (xs : List Nat) : Array Value := (xs.map fun (x : Nat) => Value.int .i64 (x : Int)).toArray
/-- What the package's variables hold. -/
structure Glob (w : World) : Prop where
  beg : ∃ t fr, w.heap[0]? = some (.cells (ws BEG) t fr)
  qu : ∃ t fr, w.heap[1]? = some (.cells (is QN) t fr)
theorem Glob.lt {w : World} (h : Glob w) : 0 < w.heap.size ∧ 1 < w.heap.size := by
  obtain ⟨⟨t, fr, h1⟩, ⟨t', fr', h2⟩⟩ := h
  exact ⟨(Array.getElem?_eq_some_iff.1 h1).1, (Array.getElem?_eq_some_iff.1 h2).1⟩
theorem Glob.below {w w' : World} {n : Nat} (h : Glob w) (hb : Below n w w') (hn : w.heap.size ≤ n) : Glob w' := by
  have hl := h.lt
  obtain ⟨⟨t, fr, h1⟩, ⟨t', fr', h2⟩⟩ := h
  exact ⟨⟨t, fr, (hb.block _ (by omega)).trans h1⟩, ⟨t', fr', (hb.block _ (by omega)).trans h2⟩⟩

theorem qi_part (k : Nat) (hk : k < 8) : (is QN).extract (k * 4) (k * 4 + 4) = #[.int .i64 (qi k 0 : Nat), .int .i64 (qi k 1 : Nat), .int .i64 (qi k 2 : Nat), .int .i64 (qi k 3 : Nat)] := by
  match k, hk with
  | 0, _ => rfl
  | 1, _ => rfl
  | 2, _ => rfl
  | 3, _ => rfl
  | 4, _ => rfl
  | 5, _ => rfl
  | 6, _ => rfl
  | 7, _ => rfl
theorem qi_lt (k : Nat) (hk : k < 8) (j : Nat) (hj : j < 4) : qi k j < 16 := by
  have h : ∀ k : Fin 8, ∀ j : Fin 4, qi k.1 j.1 < 16 := by decide +kernel
  exact h ⟨k, hk⟩ ⟨j, hj⟩

end Go.Proofs.YtbheoldakmcppaaGreatDoor

/-! What the small functions on words answer. -/
namespace Go.Proofs.YtbheoldakmcppaaGreatDoor
open Go Go.RowKit

theorem and31' (n : Int) (h0 : 1 ≤ n) (h1 : n ≤ 31) : bits .and .u64 n 31 = n := by
  rw [u64_and _ _ (by omega) (by omega) (by omega) (by omega)]
  have e : (31 : Int).toNat = 2 ^ 5 - 1 := rfl
  rw [e, Nat.and_two_pow_sub_one_eq_mod]
  omega

set_option maxHeartbeats 400000 in
theorem rotl_any (x : Wd) (n : Int) (w : World) (h0 : 1 ≤ n) (h1 : n ≤ 31) :
    Calls Tryz.prog 191 #[.int .u32 (u x), .int .i64 n] w fun e w' => e = .returned (.int .u32 (u (rl x n.toNat))) ∧ w' = w := by
  have hx0 := u_nn x
  have hx1 := u_le x
  have ha := and31' n h0 h1
  have hs1 := wsl x n.toNat
  have hs2 := wsr x (32 - n.toNat)
  have hb : bits .or .u32 (u (sl x n.toNat)) (u (sr x (32 - n.toNat))) = u (rl x n.toNat) := bo (sl x n.toNat) (sr x (32 - n.toNat))
  have e1 : (32 - n).toNat = 32 - n.toNat := by omega
  go_enter Tryz.func191, Tryz.ntmps191
  go_wp2
  go_ret
  exact ⟨rfl, rfl⟩

set_option maxHeartbeats 400000 in
theorem mix_any (a b x : Wd) (n : Int) (w : World) (h0 : 1 ≤ n) (h1 : n ≤ 31) :
    Calls Tryz.prog 185 #[.int .u32 (u a), .int .u32 (u b), .int .u32 (u x), .int .i64 n] w fun e w' => e = .returned (.tuple #[.int .u32 (u (ad a b)), .int .u32 (u (rl (xr x (ad a b)) n.toNat))]) ∧ w' = w := by
  have hp := wadd a b
  have hx := bx x (ad a b)
  go_enter Tryz.func185, Tryz.ntmps185
  go_wp2_with fail
  refine (rotl_any (xr x (ad a b)) n _ h0 h1).mono ?_
  rintro e w' ⟨rfl, rfl⟩
  go_wp2
  go_ret2
  exact ⟨rfl, rfl⟩

set_option maxHeartbeats 400000 in
theorem quarterRound_any (a b c d : Wd) (w : World) :
    Calls Tryz.prog 173 #[.int .u32 (u a), .int .u32 (u b), .int .u32 (u c), .int .u32 (u d)] w fun e w' => e = .returned (.tuple #[.int .u32 (u (qA a b c d)), .int .u32 (u (qB a b c d)), .int .u32 (u (qC a b c d)), .int .u32 (u (qD a b c d))]) ∧ w' = w := by
  go_enter Tryz.func173, Tryz.ntmps173
  go_wp2_with fail
  refine (mix_any a b d 16 _ (by omega) (by omega)).mono ?_
  rintro e w1 ⟨rfl, rfl⟩
  go_wp2_with fail
  refine (mix_any c (qd1 a b d) b 12 _ (by omega) (by omega)).mono ?_
  rintro e w1 ⟨rfl, rfl⟩
  go_wp2_with fail
  refine (mix_any (qa1 a b) (qb1 a b c d) (qd1 a b d) 8 _ (by omega) (by omega)).mono ?_
  rintro e w1 ⟨rfl, rfl⟩
  go_wp2_with fail
  refine (mix_any (qc1 a b c d) (qD a b c d) (qb1 a b c d) 7 _ (by omega) (by omega)).mono ?_
  rintro e w1 ⟨rfl, rfl⟩
  go_wp2
  exact bodyPost_ret (v := .tuple #[.int .u32 (u (qA a b c d)), .int .u32 (u (qB a b c d)), .int .u32 (u (qC a b c d)), .int .u32 (u (qD a b c d))]) (by simp [results, Tryz.results173, go_sem]; exact ⟨rfl, rfl, rfl, rfl⟩) rfl ⟨rfl, rfl⟩
end Go.Proofs.YtbheoldakmcppaaGreatDoor
