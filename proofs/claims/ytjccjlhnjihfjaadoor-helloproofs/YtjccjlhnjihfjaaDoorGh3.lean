/-
  Out of HkPlain, PlHeld, HkHeld, HkMac, HkKey, HkTwo, HkMacW, HkParts, HkIn, HkThree.
-/
import Derived.Test.YtjccjlhnjihfjaaDoorGh1
import Derived.Test.YtjccjlhnjihfjaaDoorGh2
import Derived.Test.YtjccjlhnjihfjaaDoorRows
import Derived.Laws.CopyRow
import Derived.Laws.IdiomCopy
import Derived.OrdersIn

/-! MACs and the bytes of a key, on lists: no program in sight. -/
namespace Go.Proofs.YtjccjlhnjihfjaaDoor
open Go

/-- A key as MACs take it. -/
def keyL (key : List By) : List By := if 64 < key.length then sumL key ++ List.replicate 32 0 else key ++ List.replicate (64 - key.length) 0
theorem keyL_length (key : List By) : (keyL key).length = 64 := by
  unfold keyL
  split
  · rw [List.length_append, sumL_length, List.length_replicate]
  · rw [List.length_append, List.length_replicate]; omega
/-- A key's pad with a byte. -/
def padX (k : List By) (x : By) : List By := k.map (· ^^^ x)
theorem padX_length (k : List By) (x : By) : (padX k x).length = k.length := by simp [padX]
/-- The MAC of bytes by a key that is 64 bytes. -/
def macK (k b : List By) : List By := sumL (padX k 92 ++ sumL (padX k 54 ++ b))
theorem macK_length (k b : List By) : (macK k b).length = 32 := sumL_length _
/-- The parts T1, T2 .. of a key and some info. -/
def partL (k info : List By) : Nat → List By
  | 0 => []
  | i + 1 => macK k (partL k info i ++ (info ++ [BitVec.ofNat 8 (i + 1)]))
theorem partL_length (k info : List By) (i : Nat) : (partL k info (i + 1)).length = 32 := macK_length _ _
theorem partL_le (k info : List By) (i : Nat) : (partL k info i).length ≤ 32 := by
  cases i with
  | zero => simp [partL]
  | succ i => rw [partL_length]; exact Nat.le_refl _
/-- 32 bytes. -/
abbrev Prt := { x : List By // x.length = 32 }
def hkPartAt (k info : List By) (i : Nat) : Prt := ⟨partL k info (i + 1), partL_length k info i⟩
def partTo (k info : List By) (m : Nat) : List Prt := (List.range m).map (hkPartAt k info)
theorem partTo_succ (k info : List By) (m : Nat) : partTo k info (m + 1) = partTo k info m ++ [hkPartAt k info m] := by unfold partTo; rw [List.range_succ]; simp
theorem partTo_length (k info : List By) (m : Nat) : (partTo k info m).length = m := by simp [partTo]
def joined (l : List Prt) : List By := (l.map (·.1)).flatten
theorem joined_snoc (l : List Prt) (x : Prt) : joined (l ++ [x]) = joined l ++ x.1 := by simp [joined]
theorem joined_length (l : List Prt) : (joined l).length = 32 * l.length := by
  induction l with
  | nil => rfl
  | cons x l ih =>
    have : joined (x :: l) = x.1 ++ joined l := by simp [joined]
    rw [this, List.length_append, ih, x.2, List.length_cons]; omega
/-- What is told once some parts came. -/
def toldL (n : Nat) (l : List Prt) : List By := (joined l).take n
theorem toldL_length (n : Nat) (l : List Prt) : (toldL n l).length = min n (32 * l.length) := by unfold toldL; rw [List.length_take, joined_length]
theorem toldL_snoc (n : Nat) (l : List Prt) (x : Prt) : toldL n (l ++ [x]) = toldL n l ++ x.1.take (min 32 (n - (toldL n l).length)) := by
  unfold toldL
  rw [joined_snoc, List.take_append, List.length_take]
  congr 1
  rcases Nat.le_total n (joined l).length with h | h
  · rw [Nat.min_eq_left h, Nat.sub_self, Nat.sub_eq_zero_of_le h, Nat.min_eq_right (Nat.zero_le _)]
  · rw [Nat.min_eq_right h]
    rcases Nat.le_total 32 (n - (joined l).length) with h2 | h2
    · rw [Nat.min_eq_left h2, List.take_of_length_le (by rw [x.2]; exact h2), List.take_of_length_le (by rw [x.2]; exact Nat.le_refl _)]
    · rw [Nat.min_eq_right h2]
def nparts (n : Nat) : Nat := (n + 31) / 32
def expandL (k info : List By) (n : Nat) : List By := toldL n (partTo k info (nparts n))
theorem expandL_length (k info : List By) (n : Nat) : (expandL k info n).length = n := by
  unfold expandL nparts
  rw [toldL_length, partTo_length]
  omega
/-- The info of a name, some context and how many. -/
def infoL (name ctx : List By) (n : Nat) : List By :=
  ([BitVec.ofNat 8 (n / 256), BitVec.ofNat 8 n, BitVec.ofNat 8 (name.length + 6)] ++ ([116, 108, 115, 49, 51, 32] ++ name)) ++ ([BitVec.ofNat 8 ctx.length] ++ ctx)
theorem infoL_length (name ctx : List By) (n : Nat) : (infoL name ctx n).length = name.length + ctx.length + 10 := by
  simp [infoL]
  omega
end Go.Proofs.YtjccjlhnjihfjaaDoor

/-! Laws for walks by hand: operations of a region that draws its order; copies into a whole row. -/
namespace Go.Proofs.YtjccjlhnjihfjaaDoor
open Go Go.RowKit

section
variable {P : Program} {ops : Array Oper} {Q : Exit → Act → World → Prop} {md : Region.Mode} {S : World → Prop} {fuel : Nat} {listed : Array Bool} {a : Act} {w : World}

/-- What yields its value in every world that S holds of is taken first. -/
theorem H_take {o : Oper} (i : Nat) (v : Value) (hi : ops[i]? = some o) (he : ∀ W, S W → (execOp a.eval o).run P W = .ok (.value v) W)
    (hs : Region.noSelect ops = true) (hf : Region.free md ops listed i = true) (hr : (Region.ready md ops listed).contains i = true)
    (hQ : ∀ c a v w, Q (.panic c) (a.put o.dst v) w → Q (.panic c) a w) (hw : Region.wanted o (yielded ops a.tmps) = true) (hS : S w)
    (h : wpAnyH P md ops Q S fuel (listed.setIfInBounds i true) (a.put o.dst v) w) : wpAnyH P md ops Q S (fuel + 1) listed a w :=
  wpAnyH_take hi hs hf hr (fun c a w => hQ c a _ w) (.inl ⟨hw, he⟩) hS h

/-- One operation: a value, and a world. -/
theorem O_value {o : Oper} {i : Nat} {K : Act → World → Prop} (hi : ops[i]? = some o) (hw : Region.wanted o (yielded ops a.tmps) = true) (v : Value) (w' : World)
    (he : (execOp a.eval o).run P w = .ok (.value v) w') (h : K (a.put o.dst v) w') : wpOp P ops Q i K a w := by
  unfold wpOp
  simp only [hi, hw, if_true]
  refine .inl ?_
  unfold Oper.wp
  rw [he]
  exact h
theorem O_skip {o : Oper} {i : Nat} {K : Act → World → Prop} (hi : ops[i]? = some o) (hw : Region.wanted o (yielded ops a.tmps) = true) (w' : World)
    (he : (execOp a.eval o).run P w = .ok .skip w') (h : K (a.put o.dst undef) w') : wpOp P ops Q i K a w := by
  unfold wpOp
  simp only [hi, hw, if_true]
  refine .inl ?_
  unfold Oper.wp
  rw [he]
  exact h
theorem O_call {o : Oper} {i : Nat} {K : Act → World → Prop} (hi : ops[i]? = some o) (hw : Region.wanted o (yielded ops a.tmps) = true) (f : Nat) (args : Array Value)
    (he : (execOp a.eval o).run P w = .ok (.enter f args) w) (hc : Calls P f args w fun e w' => ∃ v, e = .returned v ∧ K (a.put o.dst v) w') : wpOp P ops Q i K a w := by
  unfold wpOp
  simp only [hi, hw, if_true]
  refine .inl ?_
  unfold Oper.wp
  rw [he]
  exact hc.mono (by rintro e w' ⟨v, rfl, h⟩; exact h)

/-- What comes up alone. -/
theorem H_one (i : Nat) (hr : Region.ready md ops listed = [i]) (h : wpOp P ops Q i (fun a' w' => S w' ∧ wpAnyH P md ops Q S fuel (listed.setIfInBounds i true) a' w') a w) : wpAnyH P md ops Q S (fuel + 1) listed a w :=
  wpAnyH_all hr (by simp) (fun j hj => by obtain rfl : j = i := by simpa using hj
                                          exact h)

theorem exec_alloc_row {o : Oper} (t : TypeId) (ho : o.op = .alloc t) (cs : Array Value) (hz : (P.info? t).map (·.zero) = some (some (.agg cs))) :
    (execOp a.eval o).run P w = .ok (.value (.pointer (some ⟨w.heap.size, 0, none⟩))) (w.alloc (.cells cs t)) := by
  have hzv : (zeroValue t).run P w = .ok (.agg cs) w := by
    cases hq : P.info? t with
    | none => simp [hq] at hz
    | some i =>
      have : i.zero = some (.agg cs) := by simpa [hq] using hz
      simp [zeroValue, typeInfo, hq, this]
  unfold execOp
  simp only [ho, Instr.alloc, Sem.run_bind, hzv, Result.andThen_ok, newVar, newRow, Value.cells, run_newObj_alloc, Sem.run_pure]

theorem exec_copy {o : Oper} (s x : Operand) (t1 t2 : TypeId) (ho : o.op = .call { callee := .builtin .copy, args := #[s, x], argTypes := #[t1, t2] }) (vs vx : Value) (hs : a.eval s = vs) (hx : a.eval x = vx)
    (v : Value) (w' : World) (hr : (Builtin.copy_ #[t1, t2] o.type #[vs, vx]).run P w = .ok v w') : (execOp a.eval o).run P w = .ok (.value v) w' := by
  unfold execOp
  simp only [ho, resolve, invoke, builtin, Sem.run_bind, Sem.run_pure, Result.andThen_ok, List.map_toArray, List.map_cons, List.map_nil, hs, hx, hr]

theorem wpList_copy {rest : List Oper} {o : Oper} (hgd : o.guard = none) (s x : Operand) (t1 t2 : TypeId) (ho : o.op = .call { callee := .builtin .copy, args := #[s, x], argTypes := #[t1, t2] }) (vs vx : Value) (hs : a.eval s = vs) (hx : a.eval x = vx)
    (v : Value) (w' : World) (hr : (Builtin.copy_ #[t1, t2] o.type #[vs, vx]).run P w = .ok v w') (h : wpList P ops Q rest (a.put o.dst v) w') : wpList P ops Q (o :: rest) a w :=
  wpList_plain hgd fun _ hK => by
    unfold Oper.wp
    rw [exec_copy s x t1 t2 ho vs vx hs hx v w' hr]
    exact hK _ _ h
end

/-- A slice of bytes is copied into a whole row, which it does not lie in. -/
theorem copy_sl (w : World) (g : Nat) (t : TypeId) (old : List By) (n : Nat) (q : SL) (hr : Row w g t (bs old)) (hn : old.length = n) (hq : q.Ok w) (hl : q.len ≤ n) :
    ∃ w', (Builtin.copy_ #[28, 28] 3 #[.slice (some ⟨g, 0, none⟩) n n, .slice q.a q.len q.cap]).run Tryd.prog w = .ok (goInt q.len) w' ∧ Row w' g t (bs (q.b ++ old.drop q.len)) ∧ Keep1 g w w' := by
  by_cases h0 : q.len = 0
  · have hb0 : q.b = [] := List.eq_nil_of_length_eq_zero (by rw [hq.hb, h0])
    refine ⟨w, ?_, ?_, Keep1.refl _ _⟩
    · rw [h0]
      exact run_copy_none _ _ _ _ 5 _ _ _ _ _ _ Tryd.underlying28 (by kernel_rfl) (by simp)
    · rw [hb0, h0]
      exact hr
  · have hpos : 0 < q.len := by omega
    have hl2 : (bl q.b).length = q.len := by simp only [bl, List.length_map, hq.hb]
    have := run_copy_row (P := Tryd.prog) w 28 28 3 5 g 0 n n ⟨q.g, q.off, none⟩ q.len q.cap (bs old) t (bl q.b) Tryd.underlying28 (by kernel_rfl) hr (by rw [hl2]; exact (Nat.min_eq_left (by omega)).symm)
      (fun j v hv => by
        have hj : j < q.len := by have := (List.getElem?_eq_some_iff.1 hv).1; rw [hl2] at this; exact this
        rw [Addr.add_mid, hq.cell j hj, ← hv]
        unfold bl gb
        rw [List.getElem?_map, List.getElem?_eq_getElem (by rw [hq.hb]; exact hj)]
        rfl)
      (by rw [hl2, bs_size, hn]; omega) (fun v hv => by
        obtain ⟨z, _, rfl⟩ := List.mem_map.1 hv
        rfl)
    rw [hl2, ← hq.at_ hpos] at this
    refine ⟨_, this, ?_, Keep1.setRow _ _ _⟩
    have h2 := hr.put (((bs old).toList.take 0 ++ bl q.b ++ (bs old).toList.drop (0 + q.len)).toArray)
    have e : ((bs old).toList.take 0 ++ bl q.b ++ (bs old).toList.drop (0 + q.len)).toArray = bs (q.b ++ old.drop q.len) := by
      apply Array.ext'
      simp only [bs, bl, List.take_zero, List.nil_append, Nat.zero_add, List.map_append, List.map_drop]
    rw [e] at h2
    first
      | exact h2
      | (rw [← e]; rw [e]; exact h2)
end Go.Proofs.YtjccjlhnjihfjaaDoor

/-! Laws for walks by hand: operations of a region that draws its order; copies into a whole row. -/

/-! What hkdf.sumOf, pad and asMacKey answer. -/
namespace Go.Proofs.YtjccjlhnjihfjaaDoor
open Go Go.RowKit

set_option maxRecDepth 20000 in
set_option maxHeartbeats 1000000 in
theorem sumOf_any (L o m c : Nat) (ls : List SL) (w : World) (hm : ls.length = m) (hm2 : m ≤ 1000) (hok : ∀ s ∈ ls, s.Ok w) (htot : (joinB ls).length ≤ 1048576) (hL : L < w.heap.size)
    (hc : ∀ (j : Nat) (s : SL), ls[j]? = some s → w.cell? ⟨L, o + j, none⟩ = some (.slice s.a s.len s.cap)) :
    Calls Tryd.prog 112 #[.slice (some ⟨L, o, none⟩) m c] w fun e w' => e = .returned (.agg (bs (sumL (joinB ls)))) ∧ Below w.heap.size w w' := by
  have HM := veil hm
  have HOK := veil hok
  have HC := veil hc
  have HT := veil htot
  clear hm hok hc htot
  go_enter Tryd.func112, Tryd.ntmps112
  go_wp2_with (with_reducible (show wpList _ _ _ (⟨_, Op.alloc 23, _, _, _, _⟩ :: _) _ _)
               refine alloc_row rfl 23 rfl (bs z32) (by kernel_rfl) ?_)
  have hb0 : Below w.heap.size w (w.alloc (.cells (bs z32) 23)) := (Below.refl _ w).alloc (Nat.le_refl _) _
  refine (concat_any L o m c ls _ HM.out hm2 (fun s hs => (HOK.out s hs).alloc _) (by have := HT.out; omega) (by simp; omega) (fun j s hs => (hb0.cell (p := ⟨L, o + j, none⟩) hL).trans (HC.out j s hs))).mono ?_
  rintro e1 w1 ⟨s, rfl, hok1, hsb, hb1⟩
  have q0 : Row w1 w.heap.size 23 (bs z32) := Row.below (Row.new _ _ _) hb1 (by simp)
  have hbel1 : Below w.heap.size w w1 := hb0.trans (hb1.mono (by simp))
  clear hb0 hb1
  go_wp2_with fail
  refine (sum_any s.g s.off s.a s.len s.cap s.b w1 hok1.hb (by rw [← hok1.hb, hsb]; exact HT.out) hok1.hcap hok1.at_ hok1.lt hok1.cell).mono ?_
  rintro e2 w2 ⟨rfl, hb2⟩
  have q1 := q0.below hb2 q0.lt
  have hbel2 := hbel1.trans (hb2.mono hbel1.size)
  rw [hsb]
  clear hb2 hbel1 q0 hok1 hsb
  have hsum : (bs (sumL (joinB ls))).size = 32 := by rw [bs_size, sumL_length]
  obtain ⟨T, hT⟩ : ∃ T, T = sumL (joinB ls) := ⟨_, rfl⟩
  have HTT := veil hT
  rw [← hT] at hsum ⊢
  clear hT
  have hq1 := q1.lt
  have q2 := q1.alloc (.cells (bs T) 23)
  go_wp2_with (first
    | (with_reducible (show wpList _ _ _ (⟨_, Op.alloc 23, _, _, _, _⟩ :: _) _ _)
       refine alloc_row rfl 23 rfl (bs z32) (by kernel_rfl) ?_)
    | (with_reducible (show wpList _ _ _ (⟨_, Op.store 23 (.tmp 3) _, _, _, _, _⟩ :: _) _ _)
       refine store_new (w := w2) (by rfl) 23 _ _ (by rfl) w2.heap.size (bs T) (by rfl) (by rfl) 23 (bs z32) (by rfl) 32 (by kernel_rfl) (by rfl) hsum (bs_one _) ?_)
    | (with_reducible (show wpList _ _ _ (⟨_, Op.load 23 _, _, _, _, _⟩ :: _) _ _)
       refine load_row rfl 23 _ rfl w2.heap.size rfl _ _ (Row.new _ _ _) 32 5 Tryd.underlying23 (by kernel_rfl) hsum ?_)
    | (with_reducible (show wpList _ _ _ (⟨_, Op.store 23 (.tmp 2) _, _, _, _, _⟩ :: _) _ _)
       refine store_row rfl 23 _ _ rfl w.heap.size (bs T) rfl rfl _ _ q2 32 (by kernel_rfl) (by rfl) hsum (bs_one _) ?_))
  refine bodyPost_ret (result_row rfl _ _ w.heap.size _ _ (q2.put _) 32 5 rfl Tryd.underlying23 (by kernel_rfl) hsum) rfl ⟨by rw [HTT.out], bSetRow (hbel2.alloc hbel2.size _) (Nat.le_refl _) _⟩

theorem b8x (a b : By) : bits .xor .u8 (v8 a) (v8 b) = v8 (a ^^^ b) := by
  rw [u8_xor _ _ (v8_nn a) (by have := v8_le a; omega) (v8_nn b) (by have := v8_le b; omega)]
  unfold v8
  rw [BitVec.toNat_xor]
  simp
/-- A key whose first bytes were taken against a byte. -/
def padTo (k : List By) (x : By) (i : Nat) : List By := (padX k x).take i ++ k.drop i
theorem padTo_length (k : List By) (x : By) (i : Nat) (h : i ≤ k.length) : (padTo k x i).length = k.length := by
  unfold padTo
  rw [List.length_append, List.length_take, List.length_drop, padX_length]
  omega
theorem padTo_get (k : List By) (x : By) (i : Nat) (h : i < k.length) : gb (padTo k x i) i = gb k i := by
  unfold padTo gb
  rw [List.getElem?_append_right (by rw [List.length_take, padX_length]; omega), List.length_take, padX_length, Nat.min_eq_left (by omega), Nat.sub_self, List.getElem?_drop, Nat.add_zero]
theorem padTo_set (k : List By) (x : By) (i : Nat) (h : i < k.length) : (padTo k x i).set i (gb k i ^^^ x) = padTo k x (i + 1) := by
  unfold padTo
  have hl : ((padX k x).take i).length = i := by rw [List.length_take, padX_length]; omega
  rw [List.drop_eq_getElem_cons h, List.set_append_right _ _ (by omega), hl, Nat.sub_self, List.set_cons_zero, List.take_add_one]
  have e : (padX k x)[i]? = some (gb k i ^^^ x) := by
    unfold padX gb
    rw [List.getElem?_map, List.getElem?_eq_getElem h]
    rfl
  rw [e]
  simp

set_option maxRecDepth 20000 in
set_option maxHeartbeats 1000000 in
theorem pad_any (k : List By) (x : By) (hk : k.length = 64) (w : World) :
    Calls Tryd.prog 111 #[.agg (bs k), .int .u8 (v8 x)] w fun e w' => e = .returned (.agg (bs (padX k x))) ∧ Below w.heap.size w w' := by
  have HK := veil hk
  have hx0 := v8_nn x
  have hx1 := v8_le x
  clear hk
  go_enter Tryd.func111, Tryd.ntmps111
  go_wp2_with (with_reducible (show wpList _ _ _ (⟨_, Op.alloc 162, _, _, _, _⟩ :: _) _ _)
               refine alloc_row rfl 162 rfl (bs zB) (by kernel_rfl) ?_)
  go_loopw [6] (fun i wr => ∃ t : Nat, t ≤ 64 ∧ i = .int .i64 t ∧ Row wr w.heap.size 163 (bs (padTo k x t)) ∧ Row wr (w.heap.size + 1) 162 (bs zB) ∧ Below w.heap.size w wr)
    (fun i _ => 64 - (intOf i).toNat)
  case atStart => exact ⟨0, by omega, rfl, (Row.new _ _ _).alloc _, Row.new1 _ _ _ _, ((Below.refl _ w).alloc (Nat.le_refl _) _).alloc (by simp) _⟩
  case round =>
    obtain ⟨t, ht, rfl, r0, r1, hbel⟩ := hrel
    by_cases hlt : t < 64
    · have c0 := r0.cellB (j := t) (by rw [padTo_length _ _ _ (by rw [HK.out]; exact ht), HK.out]; exact hlt)
      have HG := veil (padTo_get k x t (by rw [HK.out]; exact hlt))
      have HSt := veil (padTo_set k x t (by rw [HK.out]; exact hlt))
      rw [HG.out] at c0
      have f0 := r0.frozen t
      have hy0 := v8_nn (gb k t)
      have hy1 := v8_le (gb k t)
      generalize gb k t = y at *
      have hbx := b8x y x
      go_wp2
      go_roundw
      case rel =>
        refine ⟨t + 1, by omega, by go_num, ?_, r1.other (by show w.heap.size + 1 ≠ w.heap.size; omega) _, hbel.setCell (p := ⟨w.heap.size, t, none⟩) (Nat.le_refl _) _⟩
        have := r0.set t (.int .u8 (v8 (y ^^^ x)))
        rw [bs_set, HSt.out] at this
        exact this
      case measure => simp [intOf]; omega
    · obtain rfl : t = 64 := by omega
      have e : padTo k x 64 = padX k x := by
        unfold padTo
        rw [List.take_of_length_le (by rw [padX_length, HK.out]; exact Nat.le_refl _), List.drop_eq_nil_of_le (by rw [HK.out]; exact Nat.le_refl _), List.append_nil]
      rw [e] at r0
      have hsz : (bs (padX k x)).size = 64 := by rw [bs_size, padX_length, HK.out]
      go_wp2_with (first
        | (with_reducible (show wpList _ _ _ (⟨_, Op.load 163 _, _, _, _, _⟩ :: _) _ _)
           refine load_row rfl 163 _ rfl w.heap.size rfl _ _ r0 64 5 Tryd.underlying163 (by kernel_rfl) hsz ?_)
        | (with_reducible (show wpList _ _ _ (⟨_, Op.store 162 _ _, _, _, _, _⟩ :: _) _ _)
           refine store_row rfl 162 _ _ rfl (w.heap.size + 1) (bs (padX k x)) rfl rfl _ _ r1 64 (by kernel_rfl) (by rfl) hsz (bs_one _) ?_))
      refine bodyPost_ret (result_row rfl _ _ (w.heap.size + 1) _ _ (r1.put _) 64 5 rfl Tryd.underlying162 (by kernel_rfl) hsz) rfl ⟨rfl, bSetRow hbel (by omega) _⟩
end Go.Proofs.YtjccjlhnjihfjaaDoor

/-! What hkdf.asMacKey answers. -/
namespace Go.Proofs.YtjccjlhnjihfjaaDoor
open Go Go.RowKit

theorem keyL_long (b : List By) (h : 64 < b.length) : keyL b = sumL b ++ zB.drop 32 := by
  unfold keyL
  rw [if_pos h]
  rfl
theorem keyL_short (b : List By) (h : ¬ 64 < b.length) : keyL b = b ++ zB.drop b.length := by
  unfold keyL zB
  rw [if_neg h, List.drop_replicate]
theorem joinB_one (q : SL) : joinB [q] = q.b := by simp [joinB]

/-- A new row of slices. -/
def vls (ls : List SL) : Array Value := (ls.map fun s => Value.slice s.a s.len s.cap).toArray
theorem new_lists (w : World) (ls : List SL) (t : TypeId) (g : Nat) (hg : g = w.heap.size) (j : Nat) (s : SL) (h : ls[j]? = some s) : (w.alloc (.cells (vls ls) t)).cell? ⟨g, 0 + j, none⟩ = some (.slice s.a s.len s.cap) := by
  subst hg
  rw [Nat.zero_add, (Row.new w t (vls ls)).cell j]
  unfold vls
  simp [h]
section
variable {P : Program} {ops : Array Oper} {Q : Exit → Act → World → Prop} {a : Act} {w : World}
/-- The beginning, at the world at hand. -/
theorem held_at {id : Nat} (hm : P.follows .mixedOrders = true) (h : wpAnyH P .any ops Q (fun _ => True) ops.size (Array.replicate ops.size false) a w.drew) : (Code.region id ops true).wp P Q a w :=
  wp_region_held hm h
end

set_option maxRecDepth 20000 in
set_option maxHeartbeats 1000000 in
theorem key_any (q : SL) (w : World) (hq : q.Ok w) (hl : q.len ≤ 1048576) :
    Calls Tryd.prog 105 #[.slice q.a q.len q.cap] w fun e w' => e = .returned (.agg (bs (keyL q.b))) ∧ Below w.heap.size w w' := by
  have HQ := veil hq
  have hkl := veil (keyL_length q.b)
  have hsz : (bs (keyL q.b)).size = 64 := by rw [bs_size, hkl.out]
  have hbl := hq.hb
  clear hq
  have b0 : Below w.heap.size w ((w.alloc (.cells (bs zB) 163)).alloc (.cells (bs zB) 163)) := ((Below.refl _ w).alloc (Nat.le_refl _) _).alloc (by simp) _
  obtain ⟨w0, hw0⟩ : ∃ w0, w0 = (w.alloc (.cells (bs zB) 163)).alloc (.cells (bs zB) 163) := ⟨_, rfl⟩
  have q0 : Row w0 w.heap.size 163 (bs zB) := by rw [hw0]; exact (Row.new _ _ _).alloc _
  have q1 : Row w0 (w.heap.size + 1) 163 (bs zB) := by rw [hw0]; exact Row.new1 _ _ _ _
  have hs0 : w0.heap.size = w.heap.size + 1 + 1 := by rw [hw0]; simp
  rw [← hw0] at b0
  go_enter Tryd.func105, Tryd.ntmps105
  by_cases hlt : (64 : Int) < (q.len : Int)
  · have HKL := veil (keyL_long q.b (by omega))
    go_wp2_with (with_reducible (show wpList _ _ _ (⟨_, Op.alloc 163, _, _, _, _⟩ :: _) _ _)
                 refine alloc_row rfl 163 rfl (bs zB) (by kernel_rfl) ?_)
    show Calls _ _ _ (((w.alloc (.cells (bs zB) 163)).alloc (.cells (bs zB) 163)).alloc (.cells (vls [q]) 28)) _
    rw [← hw0]
    refine (sumOf_any (w.heap.size + 1 + 1) 0 1 1 [q] _ rfl (by decide) (fun s hs => by
      obtain rfl : s = q := by simpa using hs
      exact (HQ.out.below b0).alloc _) (by rw [joinB_one]; omega) (by simp; omega) (fun j s hs => new_lists w0 [q] _ _ hs0.symm j s hs)).mono ?_
    rintro e1 w1 ⟨rfl, hb1⟩
    rw [joinB_one]
    have hbA : Below w0.heap.size w0 (w0.alloc (.cells (vls [q]) 28)) := (Below.refl _ w0).alloc (Nat.le_refl _) _
    have hb01 : Below w0.heap.size w0 w1 := hbA.trans (hb1.mono (by simp))
    have k0 := q0.below hb01 q0.lt
    have k1 := q1.below hb01 q1.lt
    have b1 := b0.trans (hb01.mono (by omega))
    have hs1 := hb01.size
    clear hb1 hbA hb01 q0 q1 b0
    have hsum : (bs (sumL q.b)).size = 32 := by rw [bs_size, sumL_length]
    go_wp2_with (first
      | (with_reducible (show wpList _ _ _ (⟨_, Op.alloc 23, _, _, _, _⟩ :: _) _ _)
         refine alloc_row rfl 23 rfl (bs z32) (by kernel_rfl) ?_)
      | (with_reducible (show wpList _ _ _ (⟨_, Op.store 23 (.tmp 4) _, _, _, _, _⟩ :: _) _ _)
         refine store_new (w := w1) (by rfl) 23 _ _ (by rfl) w1.heap.size (bs (sumL q.b)) (by rfl) (by rfl) 23 (bs z32) (by rfl) 32 (by kernel_rfl) (by rfl) hsum (bs_one _) ?_))
    refine held_at (by kernel_rfl) ?_
    refine H_take 0 (.slice (some ⟨w.heap.size + 1, 0, none⟩) 64 64) rfl (fun W _ => by go_simp) (by kernel_rfl) (by kernel_rfl) (by kernel_rfl) (fun _ _ _ _ h => h) rfl trivial ?_
    refine H_take 1 (.slice (some ⟨w1.heap.size, 0, none⟩) 32 32) rfl (fun W _ => by go_simp) (by kernel_rfl) (by kernel_rfl) (by kernel_rfl) (fun _ _ _ _ h => h) rfl trivial ?_
    have r4 : Row (w1.alloc (.cells (bs (sumL q.b)) 23)) w1.heap.size 23 (bs (sumL q.b)) := Row.new _ _ _
    have hs4 := rowS_ok r4
    have hsl := sumL_length q.b
    obtain ⟨w2, hc2, rk, hk2⟩ := copy_sl _ (w.heap.size + 1) _ zB 64 (rowS w1.heap.size (sumL q.b)) (k1.alloc (.cells (bs (sumL q.b)) 23)).drew rfl (hs4.same (fun _ => rfl) (Nat.le_refl _)) (by show (sumL q.b).length ≤ 64; omega)
    rw [show (rowS w1.heap.size (sumL q.b)).len = 32 from hsl, show (rowS w1.heap.size (sumL q.b)).b = sumL q.b from rfl, ← HKL.out] at rk
    refine H_one 2 (by kernel_rfl) (O_value rfl rfl _ _ (exec_copy _ _ _ _ rfl _ _ rfl rfl _ w2 (by rw [show (rowS w1.heap.size (sumL q.b)).len = 32 from hsl, show (rowS w1.heap.size (sumL q.b)).cap = 32 from hsl] at hc2; exact hc2)) ⟨trivial, ?_⟩)
    refine wpAnyH_done (by kernel_rfl) ?_ _
    have m0 := hk2.row (k0.alloc (.cells (bs (sumL q.b)) 23)).drew (by omega)
    have b2 := ((b1.alloc b1.size (.cells (bs (sumL q.b)) 23)).drew).trans (hk2.below (B := w.heap.size) (by omega) (by simp; omega))
    clear hk2 hc2 hs4 r4
    go_wp2_with (first
      | (with_reducible (show wpList _ _ _ (⟨_, Op.load 163 _, _, _, _, _⟩ :: _) _ _)
         refine load_row rfl 163 _ rfl (w.heap.size + 1) rfl _ _ rk 64 5 Tryd.underlying163 (by kernel_rfl) hsz ?_)
      | (with_reducible (show wpList _ _ _ (⟨_, Op.store 163 _ _, _, _, _, _⟩ :: _) _ _)
         refine store_row rfl 163 _ _ rfl w.heap.size (bs (keyL q.b)) rfl rfl _ _ m0 64 (by kernel_rfl) (by rfl) hsz (bs_one _) ?_))
    refine bodyPost_ret (result_row rfl _ _ w.heap.size _ _ (m0.put _) 64 5 rfl Tryd.underlying163 (by kernel_rfl) hsz) rfl ⟨rfl, bSetRow b2 (Nat.le_refl _) _⟩
  · have HKL := veil (keyL_short q.b (by omega))
    obtain ⟨w2, hc2, rk, hk2⟩ := copy_sl _ (w.heap.size + 1) _ zB 64 q q1 rfl (HQ.out.below b0) (by omega)
    rw [← hbl, ← HKL.out] at rk
    have m0 := hk2.row q0 (by omega)
    have b2 := b0.trans (hk2.below (B := w.heap.size) (by omega) (by omega))
    clear hk2
    go_wp2_with (first
      | (with_reducible (show wpList _ _ _ (⟨_, Op.alloc 163, _, _, _, _⟩ :: _) _ _)
         refine alloc_row rfl 163 rfl (bs zB) (by kernel_rfl) ?_)
      | (with_reducible (show wpList _ _ _ (⟨some 16, Op.call _, _, _, _, _⟩ :: _) _ _)
         refine wpList_copy rfl _ _ _ _ rfl _ _ rfl rfl _ w2 (by rw [hw0] at hc2; exact hc2) ?_)
      | (with_reducible (show wpList _ _ _ (⟨_, Op.load 163 _, _, _, _, _⟩ :: _) _ _)
         refine load_row rfl 163 _ rfl (w.heap.size + 1) rfl _ _ rk 64 5 Tryd.underlying163 (by kernel_rfl) hsz ?_)
      | (with_reducible (show wpList _ _ _ (⟨_, Op.store 163 _ _, _, _, _, _⟩ :: _) _ _)
         refine store_row rfl 163 _ _ rfl w.heap.size (bs (keyL q.b)) rfl rfl _ _ m0 64 (by kernel_rfl) (by rfl) hsz (bs_one _) ?_))
    refine bodyPost_ret (result_row rfl _ _ w.heap.size _ _ (m0.put _) 64 5 rfl Tryd.underlying163 (by kernel_rfl) hsz) rfl ⟨rfl, bSetRow b2 (Nat.le_refl _) _⟩
end Go.Proofs.YtjccjlhnjihfjaaDoor

/-! A region that draws its order and holds two calls, one behind the other, and makes two rows of its own, whenever: whatever comes up, the same lies there. -/
namespace Go.Proofs.YtjccjlhnjihfjaaDoor
open Go Go.RowKit

def ptr (g : Nat) : Value := .pointer (some ⟨g, 0, none⟩)
def rdTwo (i1 i3 i4 i5 : Nat) (c1 c3 c4 c5 : Bool) : List Nat := (if c1 then (if c3 then [] else [i3]) else [i1]) ++ ((if c4 then [] else [i4]) ++ (if c5 then [] else [i5]))

theorem two_two {P : Program} {ops : Array Oper} {Q : Exit → Act → World → Prop} {S : World → Prop} (B : Nat) (T : TypeId) (z : Array Value) (i1 i3 i4 i5 : Nat)
    (tm : Value → Value → Value → Value → Act) (l : Bool → Bool → Bool → Bool → Array Bool) (r1 r3 : Value)
    (hrd : ∀ c1 c3 c4 c5, (c3 = true → c1 = true) → (c3 && (c4 && c5)) = false → Region.ready .any ops (l c1 c3 c4 c5) = rdTwo i1 i3 i4 i5 c1 c3 c4 c5)
    (l1 : ∀ c4 c5, (l false false c4 c5).setIfInBounds i1 true = l true false c4 c5) (l3 : ∀ c4 c5, (l true false c4 c5).setIfInBounds i3 true = l true true c4 c5)
    (l4 : ∀ c1 c3 c5, (l c1 c3 false c5).setIfInBounds i4 true = l c1 c3 true c5) (l5 : ∀ c1 c3 c4, (l c1 c3 c4 false).setIfInBounds i5 true = l c1 c3 c4 true)
    (call1 : ∀ v5 v6 v11 W K, S W → (∀ W', Below W.heap.size W W' → K (tm v5 v6 r1 v11) W') → wpOp P ops Q i1 K (tm v5 v6 undef v11) W)
    (call3 : ∀ v5 v6 v9 W K, S W → (∀ W', Below W.heap.size W W' → K (tm v5 v6 v9 r3) W') → wpOp P ops Q i3 K (tm v5 v6 v9 undef) W)
    (alloc4 : ∀ v6 v9 v11 W K, K (tm (ptr W.heap.size) v6 v9 v11) (W.alloc (.cells z T)) → wpOp P ops Q i4 K (tm undef v6 v9 v11) W)
    (alloc5 : ∀ v5 v9 v11 W K, K (tm v5 (ptr W.heap.size) v9 v11) (W.alloc (.cells z T)) → wpOp P ops Q i5 K (tm v5 undef v9 v11) W)
    (hS : ∀ W W', S W → Below W.heap.size W W' → S W') (hB : ∀ W, S W → B ≤ W.heap.size) (f : Nat)
    (hend : ∀ g5 g6 W, S W → Row W g5 T z → Row W g6 T z → B ≤ g5 → B ≤ g6 → g5 ≠ g6 → wpAnyH P .any ops Q S f (l true true true true) (tm (ptr g5) (ptr g6) r1 r3) W) :
    ∀ W, S W → wpAnyH P .any ops Q S (f + 4) (l false false false false) (tm undef undef undef undef) W := by
  have AL : ∀ (W : World) o, Below W.heap.size W (W.alloc o) := fun W o => (Below.refl _ W).alloc (Nat.le_refl _) o
  have X3 : ∀ g5 g6 W, S W → Row W g5 T z → Row W g6 T z → B ≤ g5 → B ≤ g6 → g5 ≠ g6 → wpAnyH P .any ops Q S (f + 1) (l true false true true) (tm (ptr g5) (ptr g6) r1 undef) W := by
    intro g5 g6 W hSW h5 h6 b5 b6 hne
    refine wpAnyH_all (hrd true false true true (fun h => by cases h) rfl) (by simp [rdTwo]) (fun j hj => ?_)
    obtain rfl : j = i3 := by simpa [rdTwo] using hj
    refine call3 _ _ _ _ _ hSW (fun W' hb => ⟨hS _ _ hSW hb, ?_⟩)
    rw [l3]
    exact hend _ _ _ (hS _ _ hSW hb) (h5.below hb h5.lt) (h6.below hb h6.lt) b5 b6 hne
  have X4 : ∀ g6 W, S W → Row W g6 T z → B ≤ g6 → wpAnyH P .any ops Q S (f + 1) (l true true false true) (tm undef (ptr g6) r1 r3) W := by
    intro g6 W hSW h6 b6
    refine wpAnyH_all (hrd true true false true (fun h => rfl) rfl) (by simp [rdTwo]) (fun j hj => ?_)
    obtain rfl : j = i4 := by simpa [rdTwo] using hj
    refine alloc4 _ _ _ _ _ ⟨hS _ _ hSW (AL _ _), ?_⟩
    rw [l4]
    exact hend _ _ _ (hS _ _ hSW (AL _ _)) (Row.new _ _ _) (h6.alloc _) (hB _ hSW) b6 (by have := h6.lt; omega)
  have X5 : ∀ g5 W, S W → Row W g5 T z → B ≤ g5 → wpAnyH P .any ops Q S (f + 1) (l true true true false) (tm (ptr g5) undef r1 r3) W := by
    intro g5 W hSW h5 b5
    refine wpAnyH_all (hrd true true true false (fun h => rfl) rfl) (by simp [rdTwo]) (fun j hj => ?_)
    obtain rfl : j = i5 := by simpa [rdTwo] using hj
    refine alloc5 _ _ _ _ _ ⟨hS _ _ hSW (AL _ _), ?_⟩
    rw [l5]
    exact hend _ _ _ (hS _ _ hSW (AL _ _)) (h5.alloc _) (Row.new _ _ _) b5 (hB _ hSW) (by have := h5.lt; omega)
  have Y13 : ∀ W, S W → wpAnyH P .any ops Q S (f + 1 + 1) (l true true false false) (tm undef undef r1 r3) W := by
    intro W hSW
    refine wpAnyH_all (hrd true true false false (fun h => rfl) rfl) (by simp [rdTwo]) (fun j hj => ?_)
    rcases (by simpa [rdTwo] using hj : j = i4 ∨ j = i5) with rfl | rfl
    · refine alloc4 _ _ _ _ _ ⟨hS _ _ hSW (AL _ _), ?_⟩
      rw [l4]
      exact X5 _ _ (hS _ _ hSW (AL _ _)) (Row.new _ _ _) (hB _ hSW)
    · refine alloc5 _ _ _ _ _ ⟨hS _ _ hSW (AL _ _), ?_⟩
      rw [l5]
      exact X4 _ _ (hS _ _ hSW (AL _ _)) (Row.new _ _ _) (hB _ hSW)
  have Y14 : ∀ g5 W, S W → Row W g5 T z → B ≤ g5 → wpAnyH P .any ops Q S (f + 1 + 1) (l true false true false) (tm (ptr g5) undef r1 undef) W := by
    intro g5 W hSW h5 b5
    refine wpAnyH_all (hrd true false true false (fun h => rfl) rfl) (by simp [rdTwo]) (fun j hj => ?_)
    rcases (by simpa [rdTwo] using hj : j = i3 ∨ j = i5) with rfl | rfl
    · refine call3 _ _ _ _ _ hSW (fun W' hb => ⟨hS _ _ hSW hb, ?_⟩)
      rw [l3]
      exact X5 _ _ (hS _ _ hSW hb) (h5.below hb h5.lt) b5
    · refine alloc5 _ _ _ _ _ ⟨hS _ _ hSW (AL _ _), ?_⟩
      rw [l5]
      exact X3 _ _ _ (hS _ _ hSW (AL _ _)) (h5.alloc _) (Row.new _ _ _) b5 (hB _ hSW) (by have := h5.lt; omega)
  have Y15 : ∀ g6 W, S W → Row W g6 T z → B ≤ g6 → wpAnyH P .any ops Q S (f + 1 + 1) (l true false false true) (tm undef (ptr g6) r1 undef) W := by
    intro g6 W hSW h6 b6
    refine wpAnyH_all (hrd true false false true (fun h => rfl) rfl) (by simp [rdTwo]) (fun j hj => ?_)
    rcases (by simpa [rdTwo] using hj : j = i3 ∨ j = i4) with rfl | rfl
    · refine call3 _ _ _ _ _ hSW (fun W' hb => ⟨hS _ _ hSW hb, ?_⟩)
      rw [l3]
      exact X4 _ _ (hS _ _ hSW hb) (h6.below hb h6.lt) b6
    · refine alloc4 _ _ _ _ _ ⟨hS _ _ hSW (AL _ _), ?_⟩
      rw [l4]
      exact X3 _ _ _ (hS _ _ hSW (AL _ _)) (Row.new _ _ _) (h6.alloc _) (hB _ hSW) b6 (by have := h6.lt; omega)
  have Y45 : ∀ g5 g6 W, S W → Row W g5 T z → Row W g6 T z → B ≤ g5 → B ≤ g6 → g5 ≠ g6 → wpAnyH P .any ops Q S (f + 1 + 1) (l false false true true) (tm (ptr g5) (ptr g6) undef undef) W := by
    intro g5 g6 W hSW h5 h6 b5 b6 hne
    refine wpAnyH_all (hrd false false true true (fun h => by cases h) rfl) (by simp [rdTwo]) (fun j hj => ?_)
    obtain rfl : j = i1 := by simpa [rdTwo] using hj
    refine call1 _ _ _ _ _ hSW (fun W' hb => ⟨hS _ _ hSW hb, ?_⟩)
    rw [l1]
    exact X3 _ _ _ (hS _ _ hSW hb) (h5.below hb h5.lt) (h6.below hb h6.lt) b5 b6 hne
  have Z1 : ∀ W, S W → wpAnyH P .any ops Q S (f + 1 + 1 + 1) (l true false false false) (tm undef undef r1 undef) W := by
    intro W hSW
    refine wpAnyH_all (hrd true false false false (fun h => rfl) rfl) (by simp [rdTwo]) (fun j hj => ?_)
    rcases (by simpa [rdTwo] using hj : j = i3 ∨ j = i4 ∨ j = i5) with rfl | rfl | rfl
    · refine call3 _ _ _ _ _ hSW (fun W' hb => ⟨hS _ _ hSW hb, ?_⟩)
      rw [l3]
      exact Y13 _ (hS _ _ hSW hb)
    · refine alloc4 _ _ _ _ _ ⟨hS _ _ hSW (AL _ _), ?_⟩
      rw [l4]
      exact Y14 _ _ (hS _ _ hSW (AL _ _)) (Row.new _ _ _) (hB _ hSW)
    · refine alloc5 _ _ _ _ _ ⟨hS _ _ hSW (AL _ _), ?_⟩
      rw [l5]
      exact Y15 _ _ (hS _ _ hSW (AL _ _)) (Row.new _ _ _) (hB _ hSW)
  have Z4 : ∀ g5 W, S W → Row W g5 T z → B ≤ g5 → wpAnyH P .any ops Q S (f + 1 + 1 + 1) (l false false true false) (tm (ptr g5) undef undef undef) W := by
    intro g5 W hSW h5 b5
    refine wpAnyH_all (hrd false false true false (fun h => by cases h) rfl) (by simp [rdTwo]) (fun j hj => ?_)
    rcases (by simpa [rdTwo] using hj : j = i1 ∨ j = i5) with rfl | rfl
    · refine call1 _ _ _ _ _ hSW (fun W' hb => ⟨hS _ _ hSW hb, ?_⟩)
      rw [l1]
      exact Y14 _ _ (hS _ _ hSW hb) (h5.below hb h5.lt) b5
    · refine alloc5 _ _ _ _ _ ⟨hS _ _ hSW (AL _ _), ?_⟩
      rw [l5]
      exact Y45 _ _ _ (hS _ _ hSW (AL _ _)) (h5.alloc _) (Row.new _ _ _) b5 (hB _ hSW) (by have := h5.lt; omega)
  have Z5 : ∀ g6 W, S W → Row W g6 T z → B ≤ g6 → wpAnyH P .any ops Q S (f + 1 + 1 + 1) (l false false false true) (tm undef (ptr g6) undef undef) W := by
    intro g6 W hSW h6 b6
    refine wpAnyH_all (hrd false false false true (fun h => by cases h) rfl) (by simp [rdTwo]) (fun j hj => ?_)
    rcases (by simpa [rdTwo] using hj : j = i1 ∨ j = i4) with rfl | rfl
    · refine call1 _ _ _ _ _ hSW (fun W' hb => ⟨hS _ _ hSW hb, ?_⟩)
      rw [l1]
      exact Y15 _ _ (hS _ _ hSW hb) (h6.below hb h6.lt) b6
    · refine alloc4 _ _ _ _ _ ⟨hS _ _ hSW (AL _ _), ?_⟩
      rw [l4]
      exact Y45 _ _ _ (hS _ _ hSW (AL _ _)) (Row.new _ _ _) (h6.alloc _) (hB _ hSW) b6 (by have := h6.lt; omega)
  intro W hSW
  refine wpAnyH_all (hrd false false false false (fun h => by cases h) rfl) (by simp [rdTwo]) (fun j hj => ?_)
  rcases (by simpa [rdTwo] using hj : j = i1 ∨ j = i4 ∨ j = i5) with rfl | rfl | rfl
  · refine call1 _ _ _ _ _ hSW (fun W' hb => ⟨hS _ _ hSW hb, ?_⟩)
    rw [l1]
    exact Z1 _ (hS _ _ hSW hb)
  · refine alloc4 _ _ _ _ _ ⟨hS _ _ hSW (AL _ _), ?_⟩
    rw [l4]
    exact Z4 _ _ (hS _ _ hSW (AL _ _)) (Row.new _ _ _) (hB _ hSW)
  · refine alloc5 _ _ _ _ _ ⟨hS _ _ hSW (AL _ _), ?_⟩
    rw [l5]
    exact Z5 _ _ (hS _ _ hSW (AL _ _)) (Row.new _ _ _) (hB _ hSW)
end Go.Proofs.YtjccjlhnjihfjaaDoor

/-! What hkdf.mac answers. -/
namespace Go.Proofs.YtjccjlhnjihfjaaDoor
open Go Go.RowKit

theorem joinB_cons (q : SL) (ls : List SL) : joinB (q :: ls) = q.b ++ joinB ls := by simp [joinB]

/-- A row of the call's own that is not empty. -/
theorem own_slice {w : World} {base n : Nat} {e : TypeId} {v : Value} {xs : List Value} (h : w.ownsRow base e 1 v n xs) (hn : 0 < n) : ∃ g c, v = .slice (some ⟨g, 0, none⟩) n c ∧ g < w.heap.size ∧ base ≤ g ∧ ∀ j u, xs[j]? = some u → w.cell? ⟨g, 0 + j, none⟩ = some u := by
  rcases h.2 with ⟨_, rfl⟩ | ⟨g, c, cur, rfl, hg, hh, _, _, _, _⟩
  · omega
  · refine ⟨g, c, rfl, (Array.getElem?_eq_some_iff.1 hh).1, hg, fun j u hu => ?_⟩
    have := h.cells (g := g) rfl j u hu
    rw [add_off] at this
    rw [Nat.zero_add]
    exact this
theorem own_built (w : World) (base : Nat) (t : TypeId) (v : Value) (hb : base ≤ w.heap.size) : (w.alloc (.cells #[v] t)).ownsRow base t 1 (.slice (some ⟨w.heap.size, 0, none⟩) 1 1) 1 [v] :=
  ⟨rfl, .inr ⟨w.heap.size, 1, #[v], rfl, hb, heap_alloc_new w _, Nat.le_refl _, by unfold maxLen; omega, rfl, rfl⟩⟩
theorem vls_get (ls : List SL) (j : Nat) (u : Value) (h : (vls ls).toList[j]? = some u) : ∃ s, ls[j]? = some s ∧ u = .slice s.a s.len s.cap := by
  unfold vls at h
  rw [List.getElem?_map] at h
  cases hs : ls[j]? with
  | none => rw [hs] at h; cases h
  | some s => rw [hs] at h; exact ⟨s, rfl, (Option.some.inj h).symm⟩

set_option maxRecDepth 20000 in
set_option maxHeartbeats 1000000 in
theorem mac_any (k : List By) (hk : k.length = 64) (L o m c : Nat) (ls : List SL) (w : World) (hm : ls.length = m) (hm2 : m ≤ 900) (hok : ∀ s ∈ ls, s.Ok w) (htot : (joinB ls).length ≤ 1048512) (hL : L < w.heap.size)
    (hc : ∀ (j : Nat) (s : SL), ls[j]? = some s → w.cell? ⟨L, o + j, none⟩ = some (.slice s.a s.len s.cap)) :
    Calls Tryd.prog 104 #[.agg (bs k), .slice (some ⟨L, o, none⟩) m c] w fun e w' => e = .returned (.agg (bs (macK k (joinB ls)))) ∧ Below w.heap.size w w' := by
  have HK := veil hk
  have HM := veil hm
  have HOK := veil hok
  have HC := veil hc
  have HT := veil htot
  clear hk hm hok hc htot
  have hksz : (bs k).size = 64 := by rw [bs_size, HK.out]
  have b0 : Below w.heap.size w ((w.alloc (.cells (bs k) 163)).alloc (.cells (bs z32) 23)) := ((Below.refl _ w).alloc (Nat.le_refl _) _).alloc (by simp) _
  obtain ⟨w0, hw0⟩ : ∃ w0, w0 = (w.alloc (.cells (bs k) 163)).alloc (.cells (bs z32) 23) := ⟨_, rfl⟩
  have q0 : Row w0 w.heap.size 163 (bs k) := by rw [hw0]; exact (Row.new _ _ _).alloc _
  have q1 : Row w0 (w.heap.size + 1) 23 (bs z32) := by rw [hw0]; exact Row.new1 _ _ _ _
  have hs0 : w0.heap.size = w.heap.size + 2 := by rw [hw0]; simp
  rw [← hw0] at b0
  go_enter Tryd.func104, Tryd.ntmps104
  go_wp2_with (with_reducible (show wpList _ _ _ (⟨_, Op.alloc 23, _, _, _, _⟩ :: _) _ _)
               refine alloc_row rfl 23 rfl (bs z32) (by kernel_rfl) ?_)
  show Code.wp _ _ _ _ ((w.alloc (.cells (bs k) 163)).alloc (.cells (bs z32) 23))
  rw [← hw0]
  clear hw0
  refine wp_mono (Q := fun e a' W => e = .normal ∧ ∃ g5 g6, g5 ≠ g6 ∧ w.heap.size + 2 ≤ g5 ∧ w.heap.size + 2 ≤ g6 ∧ a' = ({ tmps := #[.agg (bs k), .slice (some ⟨L, o, none⟩) m c, ptr w.heap.size, undef, ptr (w.heap.size + 1), ptr g5, ptr g6, undef, .agg (bs k), .agg (bs (padX k 54)), .agg (bs k), .agg (bs (padX k 92)), undef, undef, undef, undef, undef, undef, undef, undef, undef], defers := [] } : Act) ∧
      Row W g5 162 (bs (padX k 54)) ∧ Row W g6 162 (bs (padX k 92)) ∧ Row W (w.heap.size + 1) 23 (bs z32) ∧ Below w.heap.size w W) ?_ ?_
  · refine held_any (S := fun W => Row W w.heap.size 163 (bs k) ∧ Row W (w.heap.size + 1) 23 (bs z32) ∧ Below w.heap.size w W) (by kernel_rfl) ⟨q0.drew, q1.drew, b0.drew⟩ (fun W hW => ?_)
    refine H_load 0 163 _ w.heap.size 163 (bs k) 64 5 rfl rfl rfl Tryd.underlying163 (by kernel_rfl) hksz (fun W h => h.1) (by kernel_rfl) (by kernel_rfl) (by kernel_rfl) (fun _ _ _ _ h => nomatch h.1) rfl hW ?_
    refine H_load 2 163 _ w.heap.size 163 (bs k) 64 5 rfl rfl rfl Tryd.underlying163 (by kernel_rfl) hksz (fun W h => h.1) (by kernel_rfl) (by kernel_rfl) (by kernel_rfl) (fun _ _ _ _ h => nomatch h.1) rfl hW ?_
    refine two_two (w.heap.size + 2) 162 (bs zB) 1 3 4 5
      (fun v5 v6 v9 v11 => { tmps := #[.agg (bs k), .slice (some ⟨L, o, none⟩) m c, ptr w.heap.size, undef, ptr (w.heap.size + 1), v5, v6, undef, .agg (bs k), v9, .agg (bs k), v11, undef, undef, undef, undef, undef, undef, undef, undef, undef], defers := [] })
      (fun c1 c3 c4 c5 => #[true, c1, true, c3, c4, c5, false, false]) (.agg (bs (padX k 54))) (.agg (bs (padX k 92)))
      ?_ (fun _ _ => rfl) (fun _ _ => rfl) (fun _ _ _ => rfl) (fun _ _ _ => rfl) ?_ ?_ ?_ ?_ ?_ ?_ 2 ?_ W hW
    · intro c1 c3 c4 c5 h1 h2
      cases c1 <;> cases c3 <;> cases c4 <;> cases c5 <;> first | (simp at h1; done) | (simp at h2; done) | kernel_rfl
    · intro v5 v6 v11 W K hS hK
      refine O_call rfl rfl 111 #[.agg (bs k), .int .u8 (v8 54)] (by go_simp; rfl) ?_
      exact (pad_any k 54 HK.out W).mono (by rintro e W' ⟨rfl, hb⟩; exact ⟨_, rfl, hK W' hb⟩)
    · intro v5 v6 v9 W K hS hK
      refine O_call rfl rfl 111 #[.agg (bs k), .int .u8 (v8 92)] (by go_simp; rfl) ?_
      exact (pad_any k 92 HK.out W).mono (by rintro e W' ⟨rfl, hb⟩; exact ⟨_, rfl, hK W' hb⟩)
    · intro v6 v9 v11 W K hK
      exact O_value rfl rfl _ _ (exec_alloc_row 162 rfl (bs zB) (by kernel_rfl)) hK
    · intro v5 v9 v11 W K hK
      exact O_value rfl rfl _ _ (exec_alloc_row 162 rfl (bs zB) (by kernel_rfl)) hK
    · rintro W W' ⟨h0, h1, h2⟩ hb
      exact ⟨h0.below hb h0.lt, h1.below hb h1.lt, h2.trans (hb.mono h2.size)⟩
    · rintro W ⟨h0, h1, h2⟩
      have := h1.lt
      omega
    · rintro g5 g6 W ⟨h0, h1, h2⟩ r5 r6 b5 b6 hne
      have hp5 : (bs (padX k 54)).size = 64 := by rw [bs_size, padX_length, HK.out]
      have hp6 : (bs (padX k 92)).size = 64 := by rw [bs_size, padX_length, HK.out]
      have hS5 := bSetRow h2 (show w.heap.size ≤ g5 by omega) (bs (padX k 54))
      refine H_one 6 (by kernel_rfl) (O_skip rfl rfl _ (run_store_row 162 _ _ rfl g5 (bs (padX k 54)) rfl rfl _ _ r5 64 (by kernel_rfl) rfl hp5 (bs_one _)) ⟨⟨h0.putOther (by omega) _, h1.putOther (by omega) _, hS5⟩, ?_⟩)
      have r6' := r6.putOther (fun e => hne e.symm) (bs (padX k 54))
      refine H_one 7 (by kernel_rfl) (O_skip rfl rfl _ (run_store_row 162 _ _ rfl g6 (bs (padX k 92)) rfl rfl _ _ r6' 64 (by kernel_rfl) rfl hp6 (bs_one _)) ⟨⟨(h0.putOther (by omega) _).putOther (by omega) _, (h1.putOther (by omega) _).putOther (by omega) _, bSetRow hS5 (by omega) _⟩, ?_⟩)
      refine wpAnyH_done (by kernel_rfl) ⟨rfl, g5, g6, hne, b5, b6, rfl, (r5.put _).putOther hne _, r6'.put _, (h1.putOther (by omega) _).putOther (by omega) _, bSetRow hS5 (by omega) _⟩ _
  · rintro e a' W ⟨rfl, g5, g6, hne, b5, b6, rfl, r5, r6, r4, hbel⟩
    clear b0 q0 q1 hs0 w0
    have hpl : ∀ x, (padX k x).length = 64 := fun x => by rw [padX_length, HK.out]
    have hsz := hbel.size
    have hr5 := r5.lt
    have hr6 := r6.lt
    have hr4 := r4.lt
    obtain ⟨i2, hi, hz0, hz1, hz2⟩ := info_parts (P := Tryd.prog) (e := 28) (z := .slice none 0 0) (size := 1) (bytes := 24) (by kernel_rfl)
    have HR5 := veil r5
    have HR6 := veil r6
    have HR4 := veil r4
    have HBL := veil hbel
    have HPL := veil hpl
    clear r5 r6 r4 hbel hpl
    unfold ptr
    go_wp2_with (with_reducible (show wpList _ _ _ (⟨some 15, Op.call _, _, _, _, _⟩ :: _) _ _)
                 refine wpList_append_own _ rfl _ _ 96 rfl W.heap.size 28 i2 (.slice none 0 0) 1 24 Tryd.underlying96 hi hz0 hz1 hz2 rfl (by decide) _ 1 _ rfl (own_built W W.heap.size _ _ (Nat.le_refl _)) ⟨L, o, none⟩ m c (vls ls).toList rfl (by simp [vls, HM.out]) (fun j u hu => by
                   obtain ⟨s, hs, rfl⟩ := vls_get ls j u hu
                   rw [add_at]
                   have hbA : Below W.heap.size W (W.alloc (.cells #[.slice (some ⟨g5, 0, none⟩) 64 64] 28)) := (Below.refl _ W).alloc (Nat.le_refl _) _
                   exact (hbA.cell (p := ⟨L, o + j, none⟩) (by show L < W.heap.size; omega)).trans ((HBL.out.cell (p := ⟨L, o + j, none⟩) hL).trans (HC.out j s hs))) (fun u hu => by
                   obtain ⟨s, _, rfl⟩ := List.mem_map.1 (by simpa [vls] using hu)
                   rfl) (by unfold maxLen; omega) (by omega) (by simp) ?_
                 intro v2 w2 hown2 hgrow2 _
                 obtain ⟨g2, c2, rfl, hg2, hg2', hcs2⟩ := own_slice hown2 (by omega))
    have hbA : Below W.heap.size W w2 := ((Below.refl _ W).alloc (Nat.le_refl _) _).grown hgrow2 (by simp) (fun q e => by cases e; exact Nat.le_refl _)
    clear hown2 hgrow2
    have hs2 := hbA.size
    have m5 := HR5.out.below hbA hr5
    have m6 := HR6.out.below hbA hr6
    have m4 := HR4.out.below hbA hr4
    have hb2 := HBL.out.trans (hbA.mono hsz)
    have hjs : joinB (rowN g5 64 (padX k 54) :: ls) = padX k 54 ++ joinB ls := joinB_cons _ _
    refine (sumOf_any g2 0 (1 + m) c2 (rowN g5 64 (padX k 54) :: ls) w2 (by rw [List.length_cons, HM.out]; omega) (by omega) (fun s hs => by
      rcases List.mem_cons.1 hs with rfl | hs
      · exact rowN_ok m5 (HPL.out 54)
      · exact ((HOK.out s hs).below hb2)) (by rw [hjs, List.length_append, HPL.out]; have := HT.out; omega) hg2 (fun j s hs => hcs2 j _ (by
      cases j with
      | zero => obtain rfl := Option.some.inj hs; rfl
      | succ j =>
        have hs' : ls[j]? = some s := hs
        show (vls ls).toList[j]? = _
        unfold vls
        rw [List.getElem?_map, hs']
        rfl))).mono ?_
    rintro e3 w3 ⟨rfl, hb3⟩
    rw [hjs]
    obtain ⟨T, hT⟩ : ∃ T, T = sumL (padX k 54 ++ joinB ls) := ⟨_, rfl⟩
    have hTl : T.length = 32 := by rw [hT, sumL_length]
    have HTT := veil hT
    rw [← hT]
    have k6 := m6.below hb3 m6.lt
    have k4 := m4.below hb3 m4.lt
    have hbl3 := hb2.trans (hb3.mono hb2.size)
    have hs3 := hb3.size
    clear hb3 hb2 m5 m6 m4 hjs hcs2 hT hbA
    have hsum : (bs T).size = 32 := by rw [bs_size, hTl]
    go_wp2_with (first
      | (with_reducible (show wpList _ _ _ (⟨_, Op.alloc 23, _, _, _, _⟩ :: _) _ _)
         refine alloc_row rfl 23 rfl (bs z32) (by kernel_rfl) ?_)
      | (with_reducible (show wpList _ _ _ (⟨_, Op.store 23 _ _, _, _, _, _⟩ :: _) _ _)
         refine store_new (w := w3) (by rfl) 23 _ _ (by rfl) w3.heap.size (bs T) (by rfl) (by rfl) 23 (bs z32) (by rfl) 32 (by kernel_rfl) (by rfl) hsum (bs_one _) ?_))
    have n7 : Row (w3.alloc (.cells (bs T) 23)).drew w3.heap.size 23 (bs T) := (Row.new _ _ _).drew
    have n6 := (k6.alloc (.cells (bs T) 23)).drew
    have n4 := (k4.alloc (.cells (bs T) 23)).drew
    have hbl4 := (hbl3.alloc hbl3.size (.cells (bs T) 23)).drew
    refine held_at (by kernel_rfl) ?_
    generalize (w3.alloc (.cells (bs T) 23)).drew = w4 at *
    have hs4 := hbl4.size
    have hn6 := n6.lt
    have hn4 := n4.lt
    refine H_take 0 (.slice (some ⟨g6, 0, none⟩) 64 64) rfl (fun W _ => by go_simp) (by kernel_rfl) (by kernel_rfl) (by kernel_rfl) (fun _ _ _ _ h => h) rfl trivial ?_
    refine H_take 1 (.slice (some ⟨w3.heap.size, 0, none⟩) 32 32) rfl (fun W _ => by go_simp) (by kernel_rfl) (by kernel_rfl) (by kernel_rfl) (fun _ _ _ _ h => h) rfl trivial ?_
    refine H_one 2 (by kernel_rfl) (O_value rfl rfl (.slice (some ⟨w4.heap.size, 0, none⟩) 2 2) (w4.alloc (.cells (vls [rowN g6 64 (padX k 92), rowN w3.heap.size 32 T]) 28)) (by go_simp; rfl) ⟨trivial, ?_⟩)
    have hjs : joinB [rowN g6 64 (padX k 92), rowN w3.heap.size 32 T] = padX k 92 ++ T := by rw [joinB_cons, joinB_one]; rfl
    refine H_one 3 (by kernel_rfl) (O_call rfl rfl 112 #[.slice (some ⟨w4.heap.size, 0, none⟩) 2 2] (by go_simp) ?_)
    have hbB : Below w4.heap.size w4 (w4.alloc (.cells (vls [rowN g6 64 (padX k 92), rowN w3.heap.size 32 T]) 28)) := (Below.refl _ w4).alloc (Nat.le_refl _) _
    refine (sumOf_any w4.heap.size 0 2 2 [rowN g6 64 (padX k 92), rowN w3.heap.size 32 T] _ rfl (by decide) (fun s hs => by
      simp only [List.mem_cons, List.not_mem_nil, or_false] at hs
      rcases hs with rfl | rfl
      · exact (rowN_ok n6 (HPL.out 92)).alloc _
      · exact (rowN_ok n7 hTl).alloc _) (by rw [hjs, List.length_append, HPL.out, hTl]; omega) (by simp) (fun j s hs => new_lists w4 _ _ _ rfl j s hs)).mono ?_
    rintro e5 w5 ⟨rfl, hb5⟩
    rw [hjs]
    have hmac : sumL (padX k 92 ++ T) = macK k (joinB ls) := by rw [HTT.out]; rfl
    rw [hmac]
    have hb45 : Below w4.heap.size w4 w5 := hbB.trans (hb5.mono (by simp))
    have p4 := n4.below hb45 hn4
    have hbl5 := hbl4.trans (hb45.mono hs4)
    have hfin : (bs (macK k (joinB ls))).size = 32 := by rw [bs_size, macK_length]
    refine ⟨_, rfl, trivial, ?_⟩
    refine H_one 4 (by kernel_rfl) (O_skip rfl rfl _ (run_store_row 23 _ _ rfl (w.heap.size + 1) (bs (macK k (joinB ls))) rfl rfl _ _ p4 32 (by kernel_rfl) rfl hfin (bs_one _)) ⟨trivial, ?_⟩)
    refine wpAnyH_done (by kernel_rfl) ?_ _
    have p5 := p4.put (bs (macK k (joinB ls)))
    have hbl6 := bSetRow hbl5 (show w.heap.size ≤ w.heap.size + 1 by omega) (bs (macK k (joinB ls)))
    generalize w5.setRow (w.heap.size + 1) (bs (macK k (joinB ls))) = w6 at *
    go_wp2
    refine bodyPost_ret (result_row rfl _ _ (w.heap.size + 1) _ _ p5 32 5 rfl Tryd.underlying23 (by kernel_rfl) hfin) rfl ⟨rfl, hbl6⟩
end Go.Proofs.YtjccjlhnjihfjaaDoor

/-! What hkdf.parts tells: the parts T1, T2 .., one by one. -/
namespace Go.Proofs.YtjccjlhnjihfjaaDoor
open Go Go.RowKit Go.Shelf
attribute [local go_sem] Oper.semAt_some

/-- What is told of a part. -/
def encP (x : Prt) : Array Value := #[.agg (bs x.1)]

set_option maxHeartbeats 400000 in
theorem hkParts_in (n : Nat) (k : List By) (a : Option Addr) (len cap : Nat) (N : Int) (w : World) :
    CallsIn Fence.wide n Tryd.prog 109 #[.agg (bs k), .slice a len cap, .int .i64 N] w fun e w' => e = .returned (.func (.func 116) #[] #[.pointer (some ⟨w.heap.size + 1 + 1, 0, none⟩), .pointer (some ⟨w.heap.size, 0, none⟩), .pointer (some ⟨w.heap.size + 1, 0, none⟩)]) ∧ w' = ((w.alloc (.cells (bs k) 163)).alloc (.cells #[.slice a len cap] 28)).alloc (.cells #[.int .i64 N] 3) := by
  refine callsIn_of_wp Tryd.func109 rfl trivial ?_ rfl
  simp only [Tryd.ntmps109, List.size_toArray, List.length_cons, List.length_nil, Nat.reduceAdd, Nat.reduceSub, Array.replicate_succ, Array.replicate_zero, List.push_toArray, List.append_toArray, List.nil_append, List.cons_append]
  gi_wp2
  go_ret
  exact ⟨rfl, rfl⟩

theorem part_byte (i : Nat) (h : i < 255) : v8 (BitVec.ofNat 8 (i + 1)) = (i : Int) + 1 := by
  unfold v8
  rw [BitVec.toNat_ofNat]
  omega
theorem joinB_three (a b c : SL) : joinB [a, b, c] = a.b ++ (b.b ++ c.b) := by simp [joinB]

set_option maxRecDepth 100000 in
set_option maxHeartbeats 1000000 in
theorem hkParts1_in (n : Nat) (hn : 1 ≤ n) (l Bk Bi Bn : Nat) (st : Nat → Prop) (k : List By) (hk : k.length = 64) (q : SL) (N : Nat) (hN : N ≤ 8160) (hql : q.len ≤ 1048479) (J : List Prt → World → Prop)
    (W : World) (rk : Row W Bk 163 (bs k)) (ci : W.cell? ⟨Bi, 0, none⟩ = some (.slice q.a q.len q.cap)) (cn : W.cell? ⟨Bn, 0, none⟩ = some (.int .i64 (N : Int))) (hBi : Bi < W.heap.size) (hq : q.Ok W)
    (hst : ∀ j, st j → j < W.heap.size) (sk : ¬ st Bk) (si : ¬ st Bi) (sq : 0 < q.len → ¬ st q.g)
    (hJ : ∀ s A B, J s A → Below W.heap.size A B → J s B)
    (hY : ∀ pre x W1, J pre W1 → YieldAt Fence.wide (n - 1) Tryd.prog l (encP x) W1 fun e W' => e = .returned (.bool true) ∧ J (pre ++ [x]) W' ∧ KeepP st W1 W')
    (h0 : J [] W) :
    CallsIn Fence.wide n Tryd.prog 116 #[.func (.yield l) #[] #[], .pointer (some ⟨Bn, 0, none⟩), .pointer (some ⟨Bk, 0, none⟩), .pointer (some ⟨Bi, 0, none⟩)] W fun e W' => (∃ v, e = .returned v) ∧ J (partTo k q.b (nparts N)) W' := by
  have HK := veil hk
  have HRK := veil rk
  have HQ := veil hq
  have hkb := rk.lt
  have HST := veil hst
  have HSQ := veil sq
  have hqb := hq.hb
  clear hk rk hq hst sq
  have hksz : (bs k).size = 64 := by rw [bs_size, HK.out]
  obtain ⟨M, hM⟩ : ∃ M, M = nparts N := ⟨_, rfl⟩
  have hM2 : ((N : Int) + 32 - 1) / 32 = (M : Int) := by rw [hM]; unfold nparts; omega
  have hM255 : M ≤ 255 := by rw [hM]; unfold nparts; omega
  rw [← hM]
  clear hM
  refine callsIn_of_wp Tryd.func116 rfl trivial ?_ rfl
  simp only [Tryd.ntmps116, List.size_toArray, List.length_cons, List.length_nil, Nat.reduceAdd, Nat.reduceSub, Array.replicate_succ, Array.replicate_zero, List.push_toArray, List.append_toArray, List.nil_append, List.cons_append]
  gi_wp2
  rw [hM2]
  clear hM2
  gi_loopw [5, 12] (fun v iv wr => ∃ (i : Nat) (pb : SL), i ≤ M ∧ iv = .int .i64 i ∧ v = .slice pb.a pb.len pb.cap ∧ pb.Ok wr ∧ pb.b = partL k q.b i ∧ (0 < pb.len → W.heap.size ≤ pb.g) ∧ J (partTo k q.b i) wr ∧ KeepP st W wr)
    (fun _ iv _ => M - (intOf iv).toNat)
  case atStart =>
    exact ⟨0, ⟨none, 0, 0, 0, 0, []⟩, Nat.zero_le _, rfl, rfl, ⟨rfl, Nat.le_refl _, fun _ => ⟨rfl, rfl⟩, fun h => absurd h (Nat.lt_irrefl _), fun h => absurd h (Nat.lt_irrefl _), fun j h => absurd h (Nat.not_lt_zero _)⟩, rfl, fun h => absurd h (Nat.lt_irrefl _), h0, KeepP.refl _ _⟩
  case round =>
    obtain ⟨i, pb, hi, rfl, rfl, hpo, hpb, hpg, hJi, hkp⟩ := hrel
    have hsz := hkp.size
    by_cases hlt : i < M
    · have hi255 : i < 255 := by omega
      have HPB := veil (part_byte i hi255)
      have rkw := hkp.row HRK.out sk
      have ciw : wr.cell? ⟨Bi, 0, none⟩ = some (.slice q.a q.len q.cap) := (World.cell?_of_block (a := ⟨Bi, 0, none⟩) (hkp.block Bi hBi si)).trans ci
      have HQw := veil (HQ.out.same (fun p => hkp.block q.g (HQ.out.lt p) (HSQ.out p)) hsz)
      have HPO := veil hpo
      have HPb := veil hpb
      have HPg := veil hpg
      have HJi := veil hJi
      have HKP := veil hkp
      have hpl : pb.len ≤ 32 := by rw [← hpo.hb, hpb]; exact partL_le _ _ _
      have hcv : IntKind.u8.wrap ((i : Int) + 1) = (i : Int) + 1 := by rw [IntKind.wrap_u8]; omega
      clear hpo hpb hpg hJi hkp
      gi_wp2_with (with_reducible (show wpListIn _ _ _ _ _ (⟨_, Op.load 163 _, _, _, _, _⟩ :: _) _ _)
                   refine load_rowIn rfl 163 _ rfl Bk rfl _ _ rkw 64 5 Tryd.underlying163 (by kernel_rfl) hksz ?_)
      have hbx : (#[Value.int .u8 ((i : Int) + 1)] : Array Value) = bs [BitVec.ofNat 8 (i + 1)] := by
        unfold bs
        rw [List.map_cons, HPB.out]
        rfl
      rw [hbx]
      obtain ⟨W1, hW1⟩ : ∃ W1, W1 = wr.alloc (.cells (bs [BitVec.ofNat 8 (i + 1)]) 5) := ⟨_, rfl⟩
      have rx : Row W1 wr.heap.size 5 (bs [BitVec.ofNat 8 (i + 1)]) := by rw [hW1]; exact Row.new _ _ _
      have bW1 : Below wr.heap.size wr W1 := by rw [hW1]; exact (Below.refl _ wr).alloc (Nat.le_refl _) _
      have hs1 : W1.heap.size = wr.heap.size + 1 := by rw [hW1]; simp
      rw [← hW1]
      clear hW1 hbx
      have bW2 : Below W1.heap.size W1 (W1.alloc (.cells (vls [pb, q, rowN wr.heap.size 1 [BitVec.ofNat 8 (i + 1)]]) 28)) := (Below.refl _ W1).alloc (Nat.le_refl _) _
      have bW12 : Below wr.heap.size wr (W1.alloc (.cells (vls [pb, q, rowN wr.heap.size 1 [BitVec.ofNat 8 (i + 1)]]) 28)) := bW1.trans (bW2.mono (by omega))
      have hjl : (joinB [pb, q, rowN wr.heap.size 1 [BitVec.ofNat 8 (i + 1)]]).length ≤ 1048512 := by
        rw [joinB_three, List.length_append, List.length_append, HPO.out.hb, hqb]
        show pb.len + (q.len + 1) ≤ _
        omega
      refine ⟨trivial, (callsIn_wide.2 (mac_any k HK.out (wr.heap.size + 1) 0 3 3 [pb, q, rowN wr.heap.size 1 [BitVec.ofNat 8 (i + 1)]] (W1.alloc (.cells (vls [pb, q, rowN wr.heap.size 1 [BitVec.ofNat 8 (i + 1)]]) 28)) rfl (by decide) (fun s hs => by
        simp only [List.mem_cons, List.not_mem_nil, or_false] at hs
        rcases hs with rfl | rfl | rfl
        · exact HPO.out.below bW12
        · exact HQw.out.below bW12
        · exact (rowN_ok rx rfl).alloc _) hjl (by simp; omega) (fun j s hs => new_lists W1 _ _ _ hs1.symm j s hs))).mono ?_⟩
      rintro e3 w3 ⟨rfl, hb3⟩
      have hpart : macK k (joinB [pb, q, rowN wr.heap.size 1 [BitVec.ofNat 8 (i + 1)]]) = (hkPartAt k q.b i).1 := by
        rw [joinB_three, HPb.out]
        rfl
      rw [hpart]
      have bw3 : Below wr.heap.size wr w3 := bW12.trans (hb3.mono (by simp; omega))
      have hs3 := bw3.size
      clear hb3 bW12 bW2 bW1 rx hpart hjl hs1
      have b4 : Below wr.heap.size wr (w3.alloc (.cells (bs (hkPartAt k q.b i).1) 23)) := bw3.alloc hs3 _
      have J4 : J (partTo k q.b i) (w3.alloc (.cells (bs (hkPartAt k q.b i).1) 23)) := hJ _ _ _ HJi.out (b4.mono hsz)
      have r4 : Row (w3.alloc (.cells (bs (hkPartAt k q.b i).1) 23)) w3.heap.size 23 (bs (hkPartAt k q.b i).1) := Row.new _ _ _
      obtain ⟨fn, tmps, assign, body, hy, hR⟩ := hY (partTo k q.b i) (hkPartAt k q.b i) _ J4
      unfold encP at hy
      rw [← partTo_succ] at hR
      have hx32 : (bs (hkPartAt k q.b i).1).size = 32 := by rw [bs_size, (hkPartAt k q.b i).2]
      have HP1 : Hid ((hkPartAt k q.b i).1 = partL k q.b (i + 1)) := rfl
      have HP2 := veil (hkPartAt k q.b i).2
      generalize (hkPartAt k q.b i).1 = x at *
      gi_wp2_with (first
        | (with_reducible (show wpListIn _ _ _ _ _ (⟨_, Op.alloc 23, _, _, _, _⟩ :: _) _ _)
           refine alloc_rowIn rfl 23 rfl (bs z32) (by kernel_rfl) ?_)
        | (with_reducible (show wpListIn _ _ _ _ _ (⟨_, Op.store 23 _ _, _, _, _, _⟩ :: _) _ _)
           refine store_newIn (w := w3) (by rfl) 23 _ _ (by rfl) w3.heap.size (bs x) (by rfl) (by rfl) 23 (bs z32) (by rfl) 32 (by kernel_rfl) (by rfl) hx32 (bs_one _) ?_)
        | (with_reducible (show wpListIn _ _ _ _ _ (⟨_, Op.load 23 _, _, _, _, _⟩ :: _) _ _)
           refine load_rowIn rfl 23 _ rfl w3.heap.size rfl _ _ r4 32 5 Tryd.underlying23 (by kernel_rfl) hx32 ?_))
      refine hR.mono ?_
      rintro e W5 ⟨rfl, hJ5, hk5⟩
      have r5 : Row W5 w3.heap.size 23 (bs x) := hk5.row r4 (fun e => by have := HST.out _ e; omega)
      have k4 : KeepP st wr (w3.alloc (.cells (bs x) 23)) := ⟨b4.os, b4.tape, b4.output, b4.size, fun j hj _ => b4.block j hj⟩
      gi_wp2
      go_roundw
      case rel => exact ⟨i + 1, rowN w3.heap.size 32 x, by omega, by go_num, rfl, rowN_ok r5 HP2.out, HP1.out, fun _ => (by show W.heap.size ≤ w3.heap.size; omega), hJ5, (HKP.out.trans k4).trans hk5⟩
      case measure => simp only [intOf]; omega
    · obtain rfl : M = i := by omega
      gi_wp2
      go_end0
      exact ⟨⟨_, rfl⟩, hJi⟩

theorem hkParts_tells (n : Nat) (hn : 1 ≤ n) (Bk Bi Bn : Nat) (st : Nat → Prop) (k : List By) (hk : k.length = 64) (q : SL) (N : Nat) (hN : N ≤ 8160) (hql : q.len ≤ 1048479)
    (w : World) (rk : Row w Bk 163 (bs k)) (ci : w.cell? ⟨Bi, 0, none⟩ = some (.slice q.a q.len q.cap)) (cn : w.cell? ⟨Bn, 0, none⟩ = some (.int .i64 (N : Int))) (hBi : Bi < w.heap.size) (hBn : Bn < w.heap.size) (hq : q.Ok w)
    (hst : ∀ j, st j → j < w.heap.size) (sk : ¬ st Bk) (si : ¬ st Bi) (sq : 0 < q.len → ¬ st q.g) :
    TellsP Fence.wide n Tryd.prog 116 #[.pointer (some ⟨Bn, 0, none⟩), .pointer (some ⟨Bk, 0, none⟩), .pointer (some ⟨Bi, 0, none⟩)] encP st (partTo k q.b (nparts N)) w := fun l J W hW hJ hY h0 =>
  hkParts1_in n hn l Bk Bi Bn st k hk q N hN hql J W (rk.below hW rk.lt) ((hW.cell (p := ⟨Bi, 0, none⟩) hBi).trans ci) ((hW.cell (p := ⟨Bn, 0, none⟩) hBn).trans cn) (Nat.lt_of_lt_of_le hBi hW.size) (hq.below hW) (fun j hj => Nat.lt_of_lt_of_le (hst j hj) hW.size) sk si sq hJ hY h0
end Go.Proofs.YtjccjlhnjihfjaaDoor

/-! A region inside a fence that draws its order: operations that come up alone, and many that only read. Written by mkquiet.py. -/
namespace Go.Proofs.YtjccjlhnjihfjaaDoor
open Go Go.RowKit

section
variable {F : Fence} {n : Nat} {P : Program} {ops : Array Oper} {Q : Exit → Act → World → Prop} {md : Region.Mode} {fuel : Nat} {listed : Array Bool} {a : Act} {w : World}
theorem I_all {rs : List Nat} (hr : Region.ready md ops listed = rs) (hne : rs ≠ [])
    (h : ∀ i ∈ rs, wpOpIn F n P ops Q i (wpAnyIn F n P md ops Q fuel (listed.setIfInBounds i true)) a w) : wpAnyIn F n P md ops Q (fuel + 1) listed a w :=
  ⟨fun h0 => absurd (hr ▸ h0) hne, hr ▸ h⟩
theorem I_one (i : Nat) (hr : Region.ready md ops listed = [i]) (h : wpOpIn F n P ops Q i (wpAnyIn F n P md ops Q fuel (listed.setIfInBounds i true)) a w) : wpAnyIn F n P md ops Q (fuel + 1) listed a w :=
  I_all hr (by simp) (fun j hj => by obtain rfl : j = i := by simpa using hj
                                     exact h)
theorem I_done (hr : Region.ready md ops listed = []) (h : Q .normal a w) : ∀ fuel, wpAnyIn F n P md ops Q fuel listed a w
  | 0 => ⟨hr, h⟩
  | _ + 1 => ⟨fun _ => h, by rw [hr]; simp⟩
theorem about_builtin {o : Oper} (b : Builtin) (args : Array Operand) (tys : Array TypeId) (ho : o.op = .call { callee := .builtin b, args := args, argTypes := tys }) : o.about P w a.eval = none := by
  unfold Oper.about
  simp only [ho, resolve, Sem.run_pure]
  rfl
theorem OI_value {o : Oper} {i : Nat} {K : Act → World → Prop} (hi : ops[i]? = some o) (hw : Region.wanted o (yielded ops a.tmps) = true) (hab : o.about P w a.eval = none) (hd : ∀ c, o.op ≠ .defer c) (v : Value) (w' : World)
    (he : (execOp a.eval o).run P w = .ok (.value v) w') (h : K (a.put o.dst v) w') : wpOpIn F n P ops Q i K a w := by
  unfold wpOpIn
  simp only [hi, hw, if_true]
  unfold Oper.wpIn
  refine ⟨fun f hf => (by rw [hab] at hf; cases hf), ?_⟩
  rw [Oper.semAt_eq _ _ _ hd, he]
  exact h
theorem OI_skip {o : Oper} {i : Nat} {K : Act → World → Prop} (hi : ops[i]? = some o) (hw : Region.wanted o (yielded ops a.tmps) = true) (hab : o.about P w a.eval = none) (hd : ∀ c, o.op ≠ .defer c) (w' : World)
    (he : (execOp a.eval o).run P w = .ok .skip w') (h : K (a.put o.dst undef) w') : wpOpIn F n P ops Q i K a w := by
  unfold wpOpIn
  simp only [hi, hw, if_true]
  unfold Oper.wpIn
  refine ⟨fun f hf => (by rw [hab] at hf; cases hf), ?_⟩
  rw [Oper.semAt_eq _ _ _ hd, he]
  exact h
theorem OI_call {o : Oper} {i : Nat} {K : Act → World → Prop} (hi : ops[i]? = some o) (hw : Region.wanted o (yielded ops a.tmps) = true) (hd : ∀ c, o.op ≠ .defer c) (f : Nat) (args : Array Value) (hab : ∀ g, o.about P w a.eval = some g → F.fn g)
    (he : (execOp a.eval o).run P w = .ok (.enter f args) w) (hn : 1 ≤ n) (hc : CallsIn F (n - 1) P f args w fun e w' => ∃ v, e = .returned v ∧ K (a.put o.dst v) w') : wpOpIn F n P ops Q i K a w := by
  unfold wpOpIn
  simp only [hi, hw, if_true]
  unfold Oper.wpIn
  refine ⟨hab, ?_⟩
  rw [Oper.semAt_eq _ _ _ hd, he]
  exact ⟨fun _ => hn, hc.mono (by rintro e w' ⟨v, rfl, h⟩; exact h)⟩
end

set_option maxHeartbeats 1000000 in
theorem quiet_told {F : Fence} {n : Nat} {P : Program} {ops : Array Oper} {Q : Exit → Act → World → Prop} {W : World} (tm : Value → Value → Value → Value → Value → Value → Value → Act) (l : Bool → Bool → Bool → Bool → Bool → Bool → Bool → Array Bool) (x0 x1 x2 x3 x4 x5 x6 : Value)
    (l0 : ∀ c1 c2 c3 c4 c5 c6, (l false c1 c2 c3 c4 c5 c6).setIfInBounds 0 true = l true c1 c2 c3 c4 c5 c6)
    (l1 : ∀ c0 c2 c3 c4 c5 c6, (l c0 false c2 c3 c4 c5 c6).setIfInBounds 1 true = l c0 true c2 c3 c4 c5 c6)
    (l2 : ∀ c0 c1 c3 c4 c5 c6, (l c0 c1 false c3 c4 c5 c6).setIfInBounds 2 true = l c0 c1 true c3 c4 c5 c6)
    (l3 : ∀ c0 c1 c2 c4 c5 c6, (l c0 c1 c2 false c4 c5 c6).setIfInBounds 3 true = l c0 c1 c2 true c4 c5 c6)
    (l4 : ∀ c0 c1 c2 c3 c5 c6, (l c0 c1 c2 c3 false c5 c6).setIfInBounds 4 true = l c0 c1 c2 c3 true c5 c6)
    (l5 : ∀ c0 c1 c2 c3 c4 c6, (l c0 c1 c2 c3 c4 false c6).setIfInBounds 5 true = l c0 c1 c2 c3 c4 true c6)
    (l6 : ∀ c0 c1 c2 c3 c4 c5, (l c0 c1 c2 c3 c4 c5 false).setIfInBounds 6 true = l c0 c1 c2 c3 c4 c5 true)
    (s0 : ∀ y1 y2 y3 y4 y5 y6 (K : Act → World → Prop), K (tm x0 y1 y2 y3 y4 y5 y6) W → wpOpIn F n P ops Q 0 K (tm undef y1 y2 y3 y4 y5 y6) W)
    (s1 : ∀ y0 y2 y3 y4 y5 y6 (K : Act → World → Prop), K (tm y0 x1 y2 y3 y4 y5 y6) W → wpOpIn F n P ops Q 1 K (tm y0 undef y2 y3 y4 y5 y6) W)
    (s2 : ∀ y0 y1 y3 y4 y5 y6 (K : Act → World → Prop), K (tm y0 y1 x2 y3 y4 y5 y6) W → wpOpIn F n P ops Q 2 K (tm y0 y1 undef y3 y4 y5 y6) W)
    (s3 : ∀ y0 y1 y4 y5 y6 (K : Act → World → Prop), K (tm y0 y1 x2 x3 y4 y5 y6) W → wpOpIn F n P ops Q 3 K (tm y0 y1 x2 undef y4 y5 y6) W)
    (s4 : ∀ y0 y2 y5 y6 (K : Act → World → Prop), K (tm y0 x1 y2 x3 x4 y5 y6) W → wpOpIn F n P ops Q 4 K (tm y0 x1 y2 x3 undef y5 y6) W)
    (s5 : ∀ y0 y1 y2 y3 y6 (K : Act → World → Prop), K (tm y0 y1 y2 y3 x4 x5 y6) W → wpOpIn F n P ops Q 5 K (tm y0 y1 y2 y3 x4 undef y6) W)
    (s6 : ∀ y0 y1 y2 y3 y4 (K : Act → World → Prop), K (tm y0 y1 y2 y3 y4 x5 x6) W → wpOpIn F n P ops Q 6 K (tm y0 y1 y2 y3 y4 x5 undef) W)
    (r0111111 : Region.ready .any ops (l false true true true true true true) = [0])
    (r1111110 : Region.ready .any ops (l true true true true true true false) = [6])
    (r0111110 : Region.ready .any ops (l false true true true true true false) = [0, 6])
    (r1111100 : Region.ready .any ops (l true true true true true false false) = [5])
    (r0111100 : Region.ready .any ops (l false true true true true false false) = [0, 5])
    (r1111000 : Region.ready .any ops (l true true true true false false false) = [4])
    (r0111000 : Region.ready .any ops (l false true true true false false false) = [0, 4])
    (r1011000 : Region.ready .any ops (l true false true true false false false) = [1])
    (r1110000 : Region.ready .any ops (l true true true false false false false) = [3])
    (r0011000 : Region.ready .any ops (l false false true true false false false) = [0, 1])
    (r0110000 : Region.ready .any ops (l false true true false false false false) = [0, 3])
    (r1010000 : Region.ready .any ops (l true false true false false false false) = [1, 3])
    (r1100000 : Region.ready .any ops (l true true false false false false false) = [2])
    (r0010000 : Region.ready .any ops (l false false true false false false false) = [0, 1, 3])
    (r0100000 : Region.ready .any ops (l false true false false false false false) = [0, 2])
    (r1000000 : Region.ready .any ops (l true false false false false false false) = [1, 2])
    (r0000000 : Region.ready .any ops (l false false false false false false false) = [0, 1, 2])
    (f : Nat) (hend : wpAnyIn F n P .any ops Q f (l true true true true true true true) (tm x0 x1 x2 x3 x4 x5 x6) W) : wpAnyIn F n P .any ops Q (f + 7) (l false false false false false false false) (tm undef undef undef undef undef undef undef) W := by
  have q1111111 := hend
  have q0111111 : wpAnyIn F n P .any ops Q (f + 1) (l false true true true true true true) (tm undef x1 x2 x3 x4 x5 x6) W := by
    refine I_all r0111111 (by simp) (fun j hj => ?_)
    obtain rfl : j = 0 := by simpa using hj
    refine s0 _ _ _ _ _ _ _ ?_
    rw [l0]
    exact q1111111
  have q1111110 : wpAnyIn F n P .any ops Q (f + 1) (l true true true true true true false) (tm x0 x1 x2 x3 x4 x5 undef) W := by
    refine I_all r1111110 (by simp) (fun j hj => ?_)
    obtain rfl : j = 6 := by simpa using hj
    refine s6 _ _ _ _ _ _ ?_
    rw [l6]
    exact q1111111
  have q0111110 : wpAnyIn F n P .any ops Q (f + 2) (l false true true true true true false) (tm undef x1 x2 x3 x4 x5 undef) W := by
    refine I_all r0111110 (by simp) (fun j hj => ?_)
    rcases (by simpa using hj : j = 0 ∨ j = 6) with rfl | rfl
    · refine s0 _ _ _ _ _ _ _ ?_
      rw [l0]
      exact q1111110
    · refine s6 _ _ _ _ _ _ ?_
      rw [l6]
      exact q0111111
  have q1111100 : wpAnyIn F n P .any ops Q (f + 2) (l true true true true true false false) (tm x0 x1 x2 x3 x4 undef undef) W := by
    refine I_all r1111100 (by simp) (fun j hj => ?_)
    obtain rfl : j = 5 := by simpa using hj
    refine s5 _ _ _ _ _ _ ?_
    rw [l5]
    exact q1111110
  have q0111100 : wpAnyIn F n P .any ops Q (f + 3) (l false true true true true false false) (tm undef x1 x2 x3 x4 undef undef) W := by
    refine I_all r0111100 (by simp) (fun j hj => ?_)
    rcases (by simpa using hj : j = 0 ∨ j = 5) with rfl | rfl
    · refine s0 _ _ _ _ _ _ _ ?_
      rw [l0]
      exact q1111100
    · refine s5 _ _ _ _ _ _ ?_
      rw [l5]
      exact q0111110
  have q1111000 : wpAnyIn F n P .any ops Q (f + 3) (l true true true true false false false) (tm x0 x1 x2 x3 undef undef undef) W := by
    refine I_all r1111000 (by simp) (fun j hj => ?_)
    obtain rfl : j = 4 := by simpa using hj
    refine s4 _ _ _ _ _ ?_
    rw [l4]
    exact q1111100
  have q0111000 : wpAnyIn F n P .any ops Q (f + 4) (l false true true true false false false) (tm undef x1 x2 x3 undef undef undef) W := by
    refine I_all r0111000 (by simp) (fun j hj => ?_)
    rcases (by simpa using hj : j = 0 ∨ j = 4) with rfl | rfl
    · refine s0 _ _ _ _ _ _ _ ?_
      rw [l0]
      exact q1111000
    · refine s4 _ _ _ _ _ ?_
      rw [l4]
      exact q0111100
  have q1011000 : wpAnyIn F n P .any ops Q (f + 4) (l true false true true false false false) (tm x0 undef x2 x3 undef undef undef) W := by
    refine I_all r1011000 (by simp) (fun j hj => ?_)
    obtain rfl : j = 1 := by simpa using hj
    refine s1 _ _ _ _ _ _ _ ?_
    rw [l1]
    exact q1111000
  have q1110000 : wpAnyIn F n P .any ops Q (f + 4) (l true true true false false false false) (tm x0 x1 x2 undef undef undef undef) W := by
    refine I_all r1110000 (by simp) (fun j hj => ?_)
    obtain rfl : j = 3 := by simpa using hj
    refine s3 _ _ _ _ _ _ ?_
    rw [l3]
    exact q1111000
  have q0011000 : wpAnyIn F n P .any ops Q (f + 5) (l false false true true false false false) (tm undef undef x2 x3 undef undef undef) W := by
    refine I_all r0011000 (by simp) (fun j hj => ?_)
    rcases (by simpa using hj : j = 0 ∨ j = 1) with rfl | rfl
    · refine s0 _ _ _ _ _ _ _ ?_
      rw [l0]
      exact q1011000
    · refine s1 _ _ _ _ _ _ _ ?_
      rw [l1]
      exact q0111000
  have q0110000 : wpAnyIn F n P .any ops Q (f + 5) (l false true true false false false false) (tm undef x1 x2 undef undef undef undef) W := by
    refine I_all r0110000 (by simp) (fun j hj => ?_)
    rcases (by simpa using hj : j = 0 ∨ j = 3) with rfl | rfl
    · refine s0 _ _ _ _ _ _ _ ?_
      rw [l0]
      exact q1110000
    · refine s3 _ _ _ _ _ _ ?_
      rw [l3]
      exact q0111000
  have q1010000 : wpAnyIn F n P .any ops Q (f + 5) (l true false true false false false false) (tm x0 undef x2 undef undef undef undef) W := by
    refine I_all r1010000 (by simp) (fun j hj => ?_)
    rcases (by simpa using hj : j = 1 ∨ j = 3) with rfl | rfl
    · refine s1 _ _ _ _ _ _ _ ?_
      rw [l1]
      exact q1110000
    · refine s3 _ _ _ _ _ _ ?_
      rw [l3]
      exact q1011000
  have q1100000 : wpAnyIn F n P .any ops Q (f + 5) (l true true false false false false false) (tm x0 x1 undef undef undef undef undef) W := by
    refine I_all r1100000 (by simp) (fun j hj => ?_)
    obtain rfl : j = 2 := by simpa using hj
    refine s2 _ _ _ _ _ _ _ ?_
    rw [l2]
    exact q1110000
  have q0010000 : wpAnyIn F n P .any ops Q (f + 6) (l false false true false false false false) (tm undef undef x2 undef undef undef undef) W := by
    refine I_all r0010000 (by simp) (fun j hj => ?_)
    rcases (by simpa using hj : j = 0 ∨ j = 1 ∨ j = 3) with rfl | rfl | rfl
    · refine s0 _ _ _ _ _ _ _ ?_
      rw [l0]
      exact q1010000
    · refine s1 _ _ _ _ _ _ _ ?_
      rw [l1]
      exact q0110000
    · refine s3 _ _ _ _ _ _ ?_
      rw [l3]
      exact q0011000
  have q0100000 : wpAnyIn F n P .any ops Q (f + 6) (l false true false false false false false) (tm undef x1 undef undef undef undef undef) W := by
    refine I_all r0100000 (by simp) (fun j hj => ?_)
    rcases (by simpa using hj : j = 0 ∨ j = 2) with rfl | rfl
    · refine s0 _ _ _ _ _ _ _ ?_
      rw [l0]
      exact q1100000
    · refine s2 _ _ _ _ _ _ _ ?_
      rw [l2]
      exact q0110000
  have q1000000 : wpAnyIn F n P .any ops Q (f + 6) (l true false false false false false false) (tm x0 undef undef undef undef undef undef) W := by
    refine I_all r1000000 (by simp) (fun j hj => ?_)
    rcases (by simpa using hj : j = 1 ∨ j = 2) with rfl | rfl
    · refine s1 _ _ _ _ _ _ _ ?_
      rw [l1]
      exact q1100000
    · refine s2 _ _ _ _ _ _ _ ?_
      rw [l2]
      exact q1010000
  have q0000000 : wpAnyIn F n P .any ops Q (f + 7) (l false false false false false false false) (tm undef undef undef undef undef undef undef) W := by
    refine I_all r0000000 (by simp) (fun j hj => ?_)
    rcases (by simpa using hj : j = 0 ∨ j = 1 ∨ j = 2) with rfl | rfl | rfl
    · refine s0 _ _ _ _ _ _ _ ?_
      rw [l0]
      exact q1000000
    · refine s1 _ _ _ _ _ _ _ ?_
      rw [l1]
      exact q0100000
    · refine s2 _ _ _ _ _ _ _ ?_
      rw [l2]
      exact q0010000
  exact q0000000
end Go.Proofs.YtjccjlhnjihfjaaDoor

/-! A region that draws its order and holds a call, an append to what it answered, a call of that, one behind the other, and makes a row of its own, whenever. -/
namespace Go.Proofs.YtjccjlhnjihfjaaDoor
open Go Go.RowKit

def rdThree (i1 i3 i4 i8 : Nat) (c1 c3 c8 : Bool) : List Nat := (if c1 then (if c3 then [i4] else [i3]) else [i1]) ++ (if c8 then [] else [i8])

theorem three_one {P : Program} {ops : Array Oper} {Q : Exit → Act → World → Prop} {S : World → Prop} (B : Nat) (T : TypeId) (z : Array Value) (i1 i3 i4 i8 : Nat)
    (tm : Value → Value → Value → Value → Act) (l : Bool → Bool → Bool → Bool → Array Bool) (I1 I2 : Value → World → Prop) (R : Value)
    (hrd : ∀ c1 c3 c8, (c3 = true → c1 = true) → Region.ready .any ops (l c1 c3 false c8) = rdThree i1 i3 i4 i8 c1 c3 c8)
    (l1 : ∀ c8, (l false false false c8).setIfInBounds i1 true = l true false false c8) (l3 : ∀ c8, (l true false false c8).setIfInBounds i3 true = l true true false c8)
    (l4 : ∀ c8, (l true true false c8).setIfInBounds i4 true = l true true true c8) (l8 : ∀ c1 c3, (l c1 c3 false false).setIfInBounds i8 true = l c1 c3 false true)
    (call1 : ∀ v8 W K, S W → (∀ v W', Below W.heap.size W W' → I1 v W' → (∀ q, v.ownBlock = some q → W.heap.size ≤ q) → K (tm v8 v undef undef) W') → wpOp P ops Q i1 K (tm v8 undef undef undef) W)
    (app : ∀ v8 v W K, S W → I1 v W → (∀ u W', S W' → I2 u W' → W.heap.size ≤ W'.heap.size → (∀ k, k < W.heap.size → v.ownBlock ≠ some k → W'.heap[k]? = W.heap[k]?) → K (tm v8 v u undef) W') → wpOp P ops Q i3 K (tm v8 v undef undef) W)
    (call4 : ∀ v8 v u W K, S W → I2 u W → (∀ W', Below W.heap.size W W' → K (tm v8 v u R) W') → wpOp P ops Q i4 K (tm v8 v u undef) W)
    (alloc8 : ∀ v u r W K, K (tm (ptr W.heap.size) v u r) (W.alloc (.cells z T)) → wpOp P ops Q i8 K (tm undef v u r) W)
    (hlt : ∀ v W, I1 v W → ∀ q, v.ownBlock = some q → q < W.heap.size)
    (hS : ∀ W W', S W → Below W.heap.size W W' → S W') (hI1 : ∀ v W W', I1 v W → Below W.heap.size W W' → I1 v W') (hI2 : ∀ v W W', I2 v W → Below W.heap.size W W' → I2 v W')
    (hB : ∀ W, S W → B ≤ W.heap.size) (f : Nat)
    (hend1 : ∀ g8 v u W, S W → Row W g8 T z → B ≤ g8 → wpAnyH P .any ops Q S f (l true true true true) (tm (ptr g8) v u R) W)
    (hend0 : ∀ v u W, S W → wpAnyH P .any ops Q S (f + 1) (l true true true false) (tm undef v u R) W) :
    ∀ W, S W → wpAnyH P .any ops Q S (f + 4) (l false false false false) (tm undef undef undef undef) W := by
  have AL : ∀ (W : World) o, Below W.heap.size W (W.alloc o) := fun W o => (Below.refl _ W).alloc (Nat.le_refl _) o
  have C1 : ∀ g8 v u W, S W → I2 u W → Row W g8 T z → B ≤ g8 → wpAnyH P .any ops Q S (f + 1) (l true true false true) (tm (ptr g8) v u undef) W := by
    intro g8 v u W hSW hi h8 b8
    refine wpAnyH_all (hrd true true true (fun h => rfl)) (by simp [rdThree]) (fun j hj => ?_)
    obtain rfl : j = i4 := by simpa [rdThree] using hj
    refine call4 _ _ _ _ _ hSW hi (fun W' hb => ⟨hS _ _ hSW hb, ?_⟩)
    rw [l4]
    exact hend1 _ _ _ _ (hS _ _ hSW hb) (h8.below hb h8.lt) b8
  have C0 : ∀ v u W, S W → I2 u W → wpAnyH P .any ops Q S (f + 1 + 1) (l true true false false) (tm undef v u undef) W := by
    intro v u W hSW hi
    refine wpAnyH_all (hrd true true false (fun h => rfl)) (by simp [rdThree]) (fun j hj => ?_)
    rcases (by simpa [rdThree] using hj : j = i4 ∨ j = i8) with rfl | rfl
    · refine call4 _ _ _ _ _ hSW hi (fun W' hb => ⟨hS _ _ hSW hb, ?_⟩)
      rw [l4]
      exact hend0 _ _ _ (hS _ _ hSW hb)
    · refine alloc8 _ _ _ _ _ ⟨hS _ _ hSW (AL _ _), ?_⟩
      rw [l8]
      exact C1 _ _ _ _ (hS _ _ hSW (AL _ _)) (hI2 _ _ _ hi (AL _ _)) (Row.new _ _ _) (hB _ hSW)
  have B1 : ∀ g8 v W, S W → I1 v W → Row W g8 T z → B ≤ g8 → v.ownBlock ≠ some g8 → wpAnyH P .any ops Q S (f + 1 + 1) (l true false false true) (tm (ptr g8) v undef undef) W := by
    intro g8 v W hSW hi h8 b8 hne
    refine wpAnyH_all (hrd true false true (fun h => rfl)) (by simp [rdThree]) (fun j hj => ?_)
    obtain rfl : j = i3 := by simpa [rdThree] using hj
    refine app _ _ _ _ hSW hi (fun u W' hS' hi' _ hk => ⟨hS', ?_⟩)
    rw [l3]
    exact C1 _ _ _ _ hS' hi' ((hk g8 h8.lt hne).trans h8) b8
  have B0 : ∀ v W, S W → I1 v W → wpAnyH P .any ops Q S (f + 1 + 1 + 1) (l true false false false) (tm undef v undef undef) W := by
    intro v W hSW hi
    refine wpAnyH_all (hrd true false false (fun h => rfl)) (by simp [rdThree]) (fun j hj => ?_)
    rcases (by simpa [rdThree] using hj : j = i3 ∨ j = i8) with rfl | rfl
    · refine app _ _ _ _ hSW hi (fun u W' hS' hi' _ _ => ⟨hS', ?_⟩)
      rw [l3]
      exact C0 _ _ _ hS' hi'
    · refine alloc8 _ _ _ _ _ ⟨hS _ _ hSW (AL _ _), ?_⟩
      rw [l8]
      exact B1 _ _ _ (hS _ _ hSW (AL _ _)) (hI1 _ _ _ hi (AL _ _)) (Row.new _ _ _) (hB _ hSW) (fun e => Nat.lt_irrefl _ (hlt _ _ hi _ e))
  have A1 : ∀ g8 W, S W → Row W g8 T z → B ≤ g8 → wpAnyH P .any ops Q S (f + 1 + 1 + 1) (l false false false true) (tm (ptr g8) undef undef undef) W := by
    intro g8 W hSW h8 b8
    refine wpAnyH_all (hrd false false true (fun h => by cases h)) (by simp [rdThree]) (fun j hj => ?_)
    obtain rfl : j = i1 := by simpa [rdThree] using hj
    refine call1 _ _ _ hSW (fun v W' hb hi hq => ⟨hS _ _ hSW hb, ?_⟩)
    rw [l1]
    exact B1 _ _ _ (hS _ _ hSW hb) hi (h8.below hb h8.lt) b8 (fun e => by have := hq _ e; have := h8.lt; omega)
  intro W hSW
  refine wpAnyH_all (hrd false false false (fun h => by cases h)) (by simp [rdThree]) (fun j hj => ?_)
  rcases (by simpa [rdThree] using hj : j = i1 ∨ j = i8) with rfl | rfl
  · refine call1 _ _ _ hSW (fun v W' hb hi _ => ⟨hS _ _ hSW hb, ?_⟩)
    rw [l1]
    exact B0 _ _ (hS _ _ hSW hb) hi
  · refine alloc8 _ _ _ _ _ ⟨hS _ _ hSW (AL _ _), ?_⟩
    rw [l8]
    exact A1 _ _ (hS _ _ hSW (AL _ _)) (Row.new _ _ _) (hB _ hSW)

section
variable {P : Program} {a : Act} {w : World}
end
/-- Bytes that lie in a row are appended to a row of the call's own: the run. -/
theorem append_row (w : World) (base : Nat) (ty : TypeId) (v : Value) (n : Nat) (xs : List By) (hown : w.ownsRow base 5 1 v n (vb xs)) (g m : Nat) (t : TypeId) (b : List By) (hb : b.length = m) (hg : Row w g t (bs b)) (hl : n + m ≤ 8388608) (hbase : base ≤ w.heap.size) :
    ∃ v' w', (Builtin.append_ #[28, 28] ty #[v, .slice (some ⟨g, 0, none⟩) m m]).run Tryd.prog w = .ok v' w' ∧ w'.ownsRow base 5 1 v' (n + m) (vb (xs ++ b)) ∧ w.grownBy w' v.ownBlock := by
  obtain ⟨i0, hi, hz0, hz1, hz2⟩ := info_parts (P := Tryd.prog) (e := 5) (z := .int .u8 0) (size := 1) (bytes := 1) (by kernel_rfl)
  obtain ⟨v', w', h1, h2, h3, _⟩ := run_append_own (P := Tryd.prog) w base 28 ty 5 i0 (.int .u8 0) 1 1 Tryd.underlying28 hi hz0 hz1 hz2 rfl (by decide) v n (vb xs) hown ⟨g, 0, none⟩ m m (vb b) (by rw [vb_length, hb, Nat.mul_one])
    (fun j u hj => by
      obtain ⟨h1, rfl⟩ := vb_get' b j u hj
      rw [add_off]
      exact hg.cellB h1) (vb_one b) (by unfold maxLen; omega) (by omega) hbase
  rw [← vb_append] at h2
  exact ⟨v', w', h1, h2, h3⟩
end Go.Proofs.YtjccjlhnjihfjaaDoor
