/-
  Words of bits, one behind the other; what the iterator over them keeps. No function of the program in sight.
-/
import Derived.Test.YtiecpkkklefjdaaGreatDoorGuHfIter
import Derived.Test.YtiecpkkklefjdaaGreatDoorGu4
namespace Go.Proofs.YtiecpkkklefjdaaGreatDoor
open Go Go.RowKit Go.Shelf

def bitsRow (row : List (Nat × Nat)) : List Bool := row.flatMap fun p => Hf.bitsN p.1 p.2
theorem bitsRow_T (s : List By) : bitsRow (rowT s) = Hf.txt s := by
  unfold bitsRow rowT Hf.txt Hf.wb
  rw [List.flatMap_map]
theorem bitsRow_B (b : List By) : bitsRow (rowB b) = Hf.bitsB b := by
  unfold bitsRow rowB Hf.bitsB
  rw [List.flatMap_map]
theorem bitsRow_take {row : List (Nat × Nat)} {j : Nat} {p : Nat × Nat} (h : row[j]? = some p) : bitsRow (row.take (j + 1)) = bitsRow (row.take j) ++ Hf.bitsN p.1 p.2 := by
  unfold bitsRow
  rw [List.take_add_one, h]
  simp
theorem bitsRow_le (row : List (Nat × Nat)) (j : Nat) : (bitsRow (row.take j)).length ≤ (bitsRow row).length := by
  have : bitsRow row = bitsRow (row.take j) ++ bitsRow (row.drop j) := by
    unfold bitsRow
    rw [← List.flatMap_append, List.take_append_drop]
  rw [this, List.length_append]
  omega
theorem bitsRow_get {row : List (Nat × Nat)} {j i : Nat} {p : Nat × Nat} (h : row[j]? = some p) (hi : i < p.1) : (bitsRow row)[(bitsRow (row.take j)).length + i]? = some (decide (p.2 / 2 ^ (p.1 - 1 - i) % 2 = 1)) := by
  have e : bitsRow row = bitsRow (row.take (j + 1)) ++ bitsRow (row.drop (j + 1)) := by
    unfold bitsRow
    rw [← List.flatMap_append, List.take_append_drop]
  rw [e, bitsRow_take h, List.append_assoc, List.getElem?_append_right (by omega), Nat.add_sub_cancel_left, List.getElem?_append_left (by rw [Hf.bitsN_length]; exact hi), Hf.bitsN_get _ _ _ hi]

def encB (x : Nat × Bool) : Array Value := #[.int .i64 (x.1 : Int), .int .u32 (x.2.toNat : Int)]
def StepB (B : List Bool) (j : Nat) (x : Nat × Bool) (j' : Nat) : Prop := x.1 = j ∧ B[j]? = some x.2 ∧ j' = j + 1
def EndB (B : List Bool) (j : Nat) : Prop := j = B.length

/-- What the iterator has while it runs: its blocks from a on, the round's call in one of them, how many bits were told in another. -/
structure BI (a b : Nat) (tf : TypeId) (l : Nat) (J : Nat → (Nat → Prop) → World → Prop) (N : Nat) (M : Nat → Prop) (W : World) : Prop where
  ex : ∃ Mo : Nat → Prop, (∀ k, M k → Mo k) ∧ (∀ k, a ≤ k → k < b + 2 → k < W.heap.size → Mo k) ∧ J N Mo W
  lo : ∀ k, M k → b ≤ k
  size : b ≤ W.heap.size
  y : Row W a tf #[.func (.yield l) #[] #[]]
  at_ : Row W (a + 1) 3 #[.int .i64 (N : Int)]
/-- Likewise, when the round said that it is enough. -/
structure BS (a b : Nat) (Js : (Nat → Prop) → World → Prop) (M : Nat → Prop) (W : World) : Prop where
  ex : ∃ Mo : Nat → Prop, (∀ k, M k → Mo k) ∧ (∀ k, a ≤ k → k < b + 2 → k < W.heap.size → Mo k) ∧ Js Mo W
  lo : ∀ k, M k → b ≤ k
  size : b ≤ W.heap.size
theorem own_new {a b : Nat} {Mo : Nat → Prop} {A B : World} (h : ∀ k, a ≤ k → k < b + 2 → k < A.heap.size → Mo k) : ∀ k, a ≤ k → k < b + 2 → k < B.heap.size → newM Mo A B k := fun k h1 h2 h3 => by
  rcases Nat.lt_or_ge k A.heap.size with c | c
  · exact .inl (h k h1 h2 c)
  · exact .inr ⟨c, h3⟩
theorem keepM_of_keepP {Mo : Nat → Prop} {L : Nat} {A B : World} (h : KeepP (fun k => k = L) A B) (hL : L < A.heap.size → Mo L) : KeepM Mo A B :=
  ⟨h.os, h.tape, h.output, h.size, fun k hk hm => h.block k hk (fun e => by subst e; exact hm (hL hk))⟩
theorem keepP_put (W : World) (L : Nat) (o : Obj) : KeepP (fun k => k = L) W (W.putObj L o) := ⟨rfl, rfl, rfl, by rw [World.putObj_size]; exact Nat.le_refl _, fun k _ hk => World.putObj_heap_other hk⟩
theorem KeepM.setCell {M : Nat → Prop} {g : Nat} (hg : M g) (W : World) (o : Nat) (v : Value) : KeepM M W (W.setCell ⟨g, o, none⟩ v) :=
  ⟨rfl, rfl, rfl, by simp [World.setCell], fun k _ hk => Below.heap_setCell W _ v k (fun e => by
    simp only at e
    subst e
    exact hk hg)⟩
theorem KeepM.weak {M Mo : Nat → Prop} {A B : World} (h : KeepM M A B) (hs : ∀ k, M k → Mo k) : KeepM Mo A B := ⟨h.os, h.tape, h.output, h.size, fun k hk hm => h.block k hk (fun e => hm (hs k e))⟩
section
variable {a b : Nat} {tf : TypeId} {l : Nat} {J : Nat → (Nat → Prop) → World → Prop} {Js : (Nat → Prop) → World → Prop} {N : Nat} {M : Nat → Prop}
theorem BI.keep {A B : World} (h : BI a b tf l J N M A) (hJ : ∀ s M A B, J s M A → KeepM M A B → J s (newM M A B) B) (hab : a + 1 < b) (k : KeepP (fun k => k = b + 1) A B) : BI a b tf l J N M B := by
  obtain ⟨Mo, h1, h2, h3⟩ := h.ex
  have hs := h.size
  refine ⟨⟨newM Mo A B, fun k hk => .inl (h1 k hk), own_new h2, hJ _ _ _ _ h3 (keepM_of_keepP k (fun hl => h2 _ (by omega) (by omega) hl))⟩, h.lo, Nat.le_trans hs k.size, k.row h.y (by omega), k.row h.at_ (by omega)⟩
theorem BS.keep {A B : World} (h : BS a b Js M A) (hJ : ∀ M A B, Js M A → KeepM M A B → Js (newM M A B) B) (hab : a + 1 < b) (k : KeepP (fun k => k = b + 1) A B) : BS a b Js M B := by
  obtain ⟨Mo, h1, h2, h3⟩ := h.ex
  have hs := h.size
  refine ⟨⟨newM Mo A B, fun k hk => .inl (h1 k hk), own_new h2, hJ _ _ _ h3 (keepM_of_keepP k (fun hl => h2 _ (by omega) (by omega) hl))⟩, h.lo, Nat.le_trans hs k.size⟩
theorem BI.more {A B : World} (h : BI a b tf l J N M A) (hJ : ∀ s M A B, J s M A → KeepM M A B → J s (newM M A B) B) (hab : a + 1 < b) (k : KeepM M A B) : BI a b tf l J N (newM M A B) B := by
  obtain ⟨Mo, h1, h2, h3⟩ := h.ex
  have hs := h.size
  have hl := h.lo
  refine ⟨⟨newM Mo A B, fun k hk => hk.elim (fun e => .inl (h1 k e)) .inr, own_new h2, hJ _ _ _ _ h3 (k.weak h1)⟩, fun k hk => hk.elim (hl k) (fun e => by omega), Nat.le_trans hs k.size, (k.block _ h.y.lt (fun e => by have := hl _ e; omega)).trans h.y, (k.block _ h.at_.lt (fun e => by have := hl _ e; omega)).trans h.at_⟩
theorem BS.more {A B : World} (h : BS a b Js M A) (hJ : ∀ M A B, Js M A → KeepM M A B → Js (newM M A B) B) (k : KeepM M A B) : BS a b Js (newM M A B) B := by
  obtain ⟨Mo, h1, h2, h3⟩ := h.ex
  have hs := h.size
  have hl := h.lo
  exact ⟨⟨newM Mo A B, fun k hk => hk.elim (fun e => .inl (h1 k e)) .inr, own_new h2, hJ _ _ _ h3 (k.weak h1)⟩, fun k hk => hk.elim (hl k) (fun e => by omega), Nat.le_trans hs k.size⟩
/-- What the iterator's own loop may write: how many bits were told, and what the round may. -/
def stIn (w0 a : Nat) (st : Nat → Prop) (k : Nat) : Prop := k = a + 1 ∨ (k < a ∧ (st k ∨ w0 ≤ k))
theorem stIn_lt {w0 : Nat} {st : Nat → Prop} (hab : a + 1 < b) : ∀ k, stIn w0 a st k → k < b := fun k h => by
  rcases h with h | ⟨h, _⟩ <;> omega
theorem keepY_in {w0 : Nat} {st Mo : Nat → Prop} {A B : World} (h : KeepY w0 st Mo A B) (h1 : ∀ k, M k → Mo k) (h2 : ∀ k, a ≤ k → k < b + 2 → k < A.heap.size → Mo k) : KeepY (b + 2) (stIn w0 a st) M A B :=
  ⟨h.os, h.tape, h.output, h.size, fun k hk hc => h.block k hk (by
    rcases hc with ⟨c1, c2⟩ | c
    · rcases Nat.lt_or_ge k a with c3 | c3
      · refine .inl ⟨?_, fun e => c2 (.inr ⟨c3, .inl e⟩)⟩
        rcases Nat.lt_or_ge k w0 with c4 | c4
        · exact c4
        · exact absurd (.inr ⟨c3, .inr c4⟩) c2
      · exact .inr (h2 k c3 c1 hk)
    · exact .inr (h1 k c))⟩
end
section
variable {F : Fence} {n : Nat} {P : Program} {ops : Array Oper} {Q : Exit → Act → World → Prop} {a : Act} {w : World}
/-- A round is called. -/
theorem OI_yield {o : Oper} {i : Nat} {K : Act → World → Prop} (hi : ops[i]? = some o) (hw : Region.wanted o (yielded ops a.tmps) = true) (hd : ∀ c, o.op ≠ .defer c) (l : Nat) (f : FuncId) (tmps : Array Value) (assign body : Code) (hab : ∀ g, o.about P w a.eval = some g → F.fn g)
    (he : (execOp a.eval o).run P w = .ok (.round l f tmps assign body) w) (hn : 1 ≤ n) (hc : RoundIn F (n - 1) P l f tmps assign body w fun e w' => ∃ v, e = .returned v ∧ K (a.put o.dst v) w') : wpOpIn F n P ops Q i K a w := by
  unfold wpOpIn
  simp only [hi, hw, if_true]
  unfold Oper.wpIn
  refine ⟨hab, ?_⟩
  rw [Oper.semAt_eq _ _ _ hd, he]
  exact ⟨fun _ => hn, hc.mono (by rintro e w' ⟨v, rfl, h⟩; exact h)⟩
theorem exec_yield2 {ρ : Operand → Value} {o : Oper} (f x y : Operand) (t1 t2 : TypeId) (l : Nat) (vx vy : Value) (r : Next) (ho : o.op = .call { callee := .value f, args := #[x, y], argTypes := #[t1, t2] }) (hf : ρ f = .func (.yield l) #[] #[]) (hx : ρ x = vx) (hy : ρ y = vy)
    (h : (Instr.yield l #[vx, vy]).run P w = .ok r w) : (execOp ρ o).run P w = .ok r w := by
  unfold execOp
  simp [ho, resolve, hf, hx, hy, Deferred.ofValue, invoke, h]
theorem run_cellH {o : Oper} (ty : TypeId) (x : Operand) (p : Addr) (v : Value) (d : TypeDesc) (ho : o.op = .load ty x) (hx : a.eval x = .pointer (some p)) (hu : P.underlying ty = some d) (hd : (match d with | .struct _ | .array _ _ => true | _ => false) = false)
    (W : World) (hv : W.cell? p = some v) : (execOp a.eval o).run P W = .ok (.value v) W := by
  have hag : (isAgg ty).run P W = .ok false W := by
    unfold isAgg
    rw [Sem.run_bind, run_underlying hu W]
    cases d <;> simp_all
  unfold execOp
  simp [ho, hx, Instr.loadAt, Instr.sureAddr, loadVar, hag, hv]
theorem run_shrH {o : Oper} (t t' : TypeId) (x y : Operand) (v r s : Nat) (hr : r ≤ 32) (hs : s = v / 2 ^ r) (ho : o.op = .binOp .shr t x y t') (hx : a.eval x = .int .u32 (v : Int)) (hy : a.eval y = .int .i64 (r : Int)) (W : World) :
    (execOp a.eval o).run P W = .ok (.value (.int .u32 (s : Int))) W := by
  unfold execOp
  simp only [ho, hx, hy]
  go_simp
theorem run_andH {o : Oper} (t t' : TypeId) (x y : Operand) (v : Nat) (hv : v < 4294967296) (ho : o.op = .binOp .and t x y t') (hx : a.eval x = .int .u32 (v : Int)) (hy : a.eval y = .int .u32 1) (W : World) :
    (execOp a.eval o).run P W = .ok (.value (.int .u32 ((v % 2 : Nat) : Int))) W := by
  have h : bits .and .u32 (v : Int) 1 = ((v % 2 : Nat) : Int) := by
    rw [u32_and _ _ (by omega) (by omega) (by omega) (by omega)]
    simp [Nat.and_one_is_mod]
  unfold execOp
  simp only [ho, hx, hy]
  go_simp
end
end Go.Proofs.YtiecpkkklefjdaaGreatDoor
