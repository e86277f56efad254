/-
  Out of RgGuard, BkTools, PcLine.
-/
import Derived.Test.YtohoieleakieeaaGreatDoorGl2
import Derived.Test.YtohoieleakieeaaGreatDoorGl4
import Derived.Test.YtohoieleakieeaaGreatDoorGl3
import Derived.Deep.MidRow
import Derived.RangeFuncBox
import Derived.Deep.RegionHeld3
import Derived.Maps.AppendAt
import Derived.ArgAppend
import Derived.BigQuiet
import Derived.Deep.AppendLies
import Derived.Deep.RegionLaw
import Derived.BigRegion

/-! Single operations, guarded ones among them. No program in sight. -/
namespace Go.Proofs.YtohoieleakieeaaGreatDoor
open Go Go.RowKit

section
variable {F : Fence} {n : Nat} {P : Program} {ops : Array Oper} {Q : Exit → Act → World → Prop} {a : Act} {w : World}
theorem OI_off2 {i : Nat} {K : Act → World → Prop} (h1 : i < ops.size) (hw : Region.wanted ops[i] (yielded ops a.tmps) = false) (hab : ∀ f, ops[i].about P w a.eval = some f → F.fn f) (h : K (a.put ops[i].dst undef) w) : wpOpIn F n P ops Q i K a w := by
  unfold wpOpIn
  simp only [Array.getElem?_eq_getElem h1, hw]
  exact ⟨hab, h⟩
theorem OI_value2 {i : Nat} {K : Act → World → Prop} (h1 : i < ops.size) (hw : Region.wanted ops[i] (yielded ops a.tmps) = true) (hab : ops[i].about P w a.eval = none) (hd : ∀ c, ops[i].op ≠ .defer c) (v : Value) (w' : World)
    (he : (execOp a.eval ops[i]).run P w = .ok (.value v) w') (h : K (a.put ops[i].dst v) w') : wpOpIn F n P ops Q i K a w :=
  OI_value (Array.getElem?_eq_getElem h1) hw hab hd v w' he h
theorem OI_call2 {i : Nat} {K : Act → World → Prop} (h1 : i < ops.size) (hw : Region.wanted ops[i] (yielded ops a.tmps) = true) (hd : ∀ c, ops[i].op ≠ .defer c) (f : Nat) (args : Array Value) (hab : ∀ g, ops[i].about P w a.eval = some g → F.fn g)
    (he : (execOp a.eval ops[i]).run P w = .ok (.enter f args) w) (hn : 1 ≤ n) (hc : CallsIn F (n - 1) P f args w fun e w' => ∃ v, e = .returned v ∧ K (a.put ops[i].dst v) w') : wpOpIn F n P ops Q i K a w :=
  OI_call (Array.getElem?_eq_getElem h1) hw hd f args hab he hn hc
end
section
variable {P : Program} {a : Act} {o : Oper}
theorem run_midR (ty : TypeId) (x : Operand) (g off : Nat) (cs : Array Value) (d : TypeDesc) (ho : o.op = .load ty x) (hx : a.eval x = .pointer (some ⟨g, off, none⟩)) (hu : P.underlying ty = some d) (hd : d.isRow = true) (hi : (P.info? ty).map (·.size) = some cs.size) (W : World) (hc : W.rangeAt g off cs.toList) :
    (execOp a.eval o).run P W = .ok (.value (.agg cs)) W := by
  have h := run_loadAt_mid (P := P) W g off ty cs.toList d hc hu hd (by simpa using hi)
  unfold execOp
  simp only [ho, hx, Sem.run_bind, h, Result.andThen_ok, Sem.run_pure]
theorem run_atR (t e : TypeId) (m : Nat) (x ix : Operand) (g off len cap j : Nat) (ho : o.op = .indexAddr t x ix) (hx : a.eval x = .slice (some ⟨g, off, none⟩) len cap) (hix : a.eval ix = .int .i64 (j : Int))
    (hu : P.underlying t = some (.slice e)) (hi : (P.info? e).map (·.size) = some m) (hj : j < len) (W : World) : (execOp a.eval o).run P W = .ok (.value (.pointer (some ⟨g, off + j * m, none⟩))) W := by
  have hsz : (sizeOf e).run P W = .ok m W := by
    cases hq : P.info? e with
    | none => simp [hq] at hi
    | some i =>
      have : i.size = m := by simpa [hq] using hi
      simp [sizeOf, typeInfo, hq, this]
  unfold execOp
  simp [ho, hx, hix, Instr.indexAt, asIntOf, run_underlying hu, hj, hsz, Addr.add_mid]
theorem run_addU (t t' : TypeId) (x y : Operand) (m r s : Nat) (hs : s = m + r) (hm : s < 18446744073709551616) (ho : o.op = .binOp .add t x y t') (hx : a.eval x = .int .u64 (m : Int)) (hy : a.eval y = .int .u64 (r : Int)) (W : World) :
    (execOp a.eval o).run P W = .ok (.value (.int .u64 (s : Int))) W := by
  have hw : IntKind.u64.wrap ((m : Int) + (r : Int)) = (s : Int) := by rw [IntKind.wrap_u64]; omega
  unfold execOp
  simp only [ho, hx, hy]
  go_simp
theorem run_subI (t t' : TypeId) (x y : Operand) (m r s : Nat) (hs : m = s + r) (hm : m < 9223372036854775808) (ho : o.op = .binOp .sub t x y t') (hx : a.eval x = .int .i64 (m : Int)) (hy : a.eval y = .int .i64 (r : Int)) (W : World) :
    (execOp a.eval o).run P W = .ok (.value (.int .i64 (s : Int))) W := by
  have hw : IntKind.i64.wrap ((m : Int) - (r : Int)) = (s : Int) := by rw [IntKind.wrap_i64]; omega
  unfold execOp
  simp only [ho, hx, hy]
  go_simp
  rw [IntKind.wrap_i64]; omega
theorem run_gtrI (t t' : TypeId) (x y : Operand) (m r : Nat) (b : Bool) (hb : b = decide (r < m)) (ho : o.op = .binOp .gtr t x y t') (hx : a.eval x = .int .i64 (m : Int)) (hy : a.eval y = .int .i64 (r : Int)) (W : World) :
    (execOp a.eval o).run P W = .ok (.value (.bool b)) W := by
  have hd : decide ((r : Int) < (m : Int)) = b := by rw [hb]; simp
  unfold execOp
  simp only [ho, hx, hy]
  go_simp
theorem run_leqU (t t' : TypeId) (x y : Operand) (m r : Nat) (b : Bool) (hb : b = decide (m ≤ r)) (ho : o.op = .binOp .leq t x y t') (hx : a.eval x = .int .u64 (m : Int)) (hy : a.eval y = .int .u64 (r : Int)) (W : World) :
    (execOp a.eval o).run P W = .ok (.value (.bool b)) W := by
  unfold execOp
  simp only [ho, hx, hy]
  go_simp
end
end Go.Proofs.YtohoieleakieeaaGreatDoor

/-! Single operations that the Book's own functions want. No program in sight. -/
namespace Go.Proofs.YtohoieleakieeaaGreatDoor.Bq
open Go Go.RowKit

theorem run_cellB {P : Program} {a : Act} {o : Oper} (ty : TypeId) (x : Operand) (p : Addr) (v : Value) (d : TypeDesc) (ho : o.op = .load ty x) (hx : a.eval x = .pointer (some p)) (hu : P.underlying ty = some d) (hd : (match d with | .struct _ | .array _ _ => true | _ => false) = false)
    (W : World) (hv : W.cell? p = some v) : (execOp a.eval o).run P W = .ok (.value v) W := by
  have hag : (isAgg ty).run P W = .ok false W := by
    unfold isAgg
    rw [Sem.run_bind, run_underlying hu W]
    cases d <;> simp_all
  unfold execOp
  simp [ho, hx, Instr.loadAt, Instr.sureAddr, loadVar, hag, hv]
theorem run_lenB {P : Program} {a : Act} {o : Oper} (x : Operand) (t e : TypeId) (ad : Option Addr) (len cap : Nat) (ho : o.op = .call { callee := .builtin .len, args := #[x], argTypes := #[t] }) (hx : a.eval x = .slice ad len cap) (W : World) (ht : P.underlying t = some (.slice e)) : (execOp a.eval o).run P W = .ok (.value (.int .i64 (len : Int))) W := by
  unfold execOp
  simp only [ho, resolve, invoke, builtin, List.map_toArray, List.map_cons, List.map_nil, hx]
  go_simp
theorem run_storeMid8 {P : Program} {a : Act} {o : Oper} (ty : TypeId) (x y : Operand) (b off : Nat) (cells : Array Value) (ho : o.op = .store ty x y) (hx : a.eval x = .pointer (some ⟨b, off, none⟩)) (hy : a.eval y = .agg cells) (w : World) (ht : w.there b off cells.size) (hi : (P.info? ty).map (·.size) = some cells.size) (h1 : cells.all (·.oneCell') = true) : (execOp a.eval o).run P w = .ok .skip (w.setCells b off cells.toList) := by
  unfold execOp
  simp only [ho, hx, hy, run_storeAt_mid w b off ty cells ht hi h1, Sem.run_bind, Sem.run_pure, Result.andThen_ok]
theorem run_lssI8 {P : Program} {a : Act} {o : Oper} (t t' : TypeId) (x y : Operand) (m r : Nat) (b : Bool) (hb : b = decide (m < r)) (ho : o.op = .binOp .lss t x y t') (hx : a.eval x = .int .i64 (m : Int)) (hy : a.eval y = .int .i64 (r : Int)) (W : World) :
    (execOp a.eval o).run P W = .ok (.value (.bool b)) W := by
  subst hb
  unfold execOp
  simp only [ho, hx, hy]
  go_simp
end Go.Proofs.YtohoieleakieeaaGreatDoor.Bq

/-! A drawn region whose operations have values that are known ahead, with a line of calls that turn the world. -/
namespace Go.Proofs.YtohoieleakieeaaGreatDoor
open Go Go.RowKit

theorem puts_same : ∀ (ds : List Nat) (a : Act) (k : Nat) (x y : Nat → Value), (∀ j, k ≤ j → j < k + ds.length → x j = y j) → putsV a ds k x = putsV a ds k y
  | [], _, _, _, _, _ => rfl
  | e :: ds, a, k, x, y, h => by
    rw [putsV, putsV, h k (Nat.le_refl _) (by simp), puts_same ds _ _ x y (fun j h1 h2 => h j (by omega) (by simp; omega))]
section
variable {F : Fence} {n : Nat} {P : Program} {ops : Array Oper} {Q : Exit → Act → World → Prop} {md : Region.Mode}
theorem anyIn_line {a0 : Act} {W0 : World} (V : Nat → Value) (R : Nat → World → Prop) (ch ds : List Nat) (dep : Nat → List Nat) (hd : edgesB md ops dep = true) (hlen : ds.length = ops.size) (hnd : ds.Nodup) (hchn : ch.Nodup)
    (hord : ∀ k i j, ch[k]? = some j → ch[k + 1]? = some i → j ∈ dep i ∨ ∃ q ∈ dep i, j ∈ dep q)
    (hin : ∀ j ∈ ch, j < ops.size)
    (h0 : R 0 W0)
    (hfix : ∀ (x : Nat → Value) (W : World) (m i d : Nat), R m W → ds[i]? = some d → i ∉ ch → (∀ j ∈ dep i, x j = V j) → wpOpIn F n P ops Q i (fun a' W' => a' = (putsV a0 ds 0 x).put (some d) (V i) ∧ W' = W) (putsV a0 ds 0 x) W)
    (hcal : ∀ (x : Nat → Value) (W : World) (k i d : Nat), R k W → ch[k]? = some i → ds[i]? = some d → (∀ j ∈ dep i, x j = V j) → wpOpIn F n P ops Q i (fun a' W' => a' = (putsV a0 ds 0 x).put (some d) (V i) ∧ R (k + 1) W') (putsV a0 ds 0 x) W)
    (hdone : ∀ (W : World), R ch.length W → Q .normal (putsV a0 ds 0 V) W) : wpAnyIn F n P md ops Q ops.size (Array.replicate ops.size false) a0 W0 := by
  refine anyIn_inv2 (Inv := fun l a W => ∃ (x : Nat → Value) (m : Nat), a = putsV a0 ds 0 x ∧ R m W ∧ (∀ j, On l j → x j = V j) ∧ (∀ k j, ch[k]? = some j → (On l j ↔ k < m)) ∧ m ≤ ch.length ∧ (∀ j, On l j → ∀ i ∈ dep j, On l i)) dep ops.size rfl hd ?_ ?_ _ _ _ _ (by simp) (by simp) ?_
  · rintro l a W i hl ⟨x, m, rfl, h1, h2, h5, h6, h4⟩ hi hno hdep
    have hi' : i < ds.length := by omega
    have hdi : ds[i]? = some ds[i] := List.getElem?_eq_getElem hi'
    have hfx : ∀ j ∈ dep i, x j = V j := fun j hj => h2 j (hdep j hj)
    have hon : ∀ j, On (l.setIfInBounds i true) j ↔ j = i ∨ On l j := by
      intro j
      constructor
      · intro h
        by_cases e : j = i
        · exact .inl e
        · exact .inr (h.of_set (Ne.symm e))
      · rintro (rfl | h)
        · exact On.self (by omega)
        · exact h.set
    have hcl : ∀ j, On (l.setIfInBounds i true) j → ∀ i' ∈ dep j, On (l.setIfInBounds i true) i' := by
      intro j hj q hq
      rcases (hon j).1 hj with rfl | hj
      · exact (hdep q hq).set
      · exact (h4 j hj q hq).set
    have hup : ∀ j, On (l.setIfInBounds i true) j → updV x i (V i) j = V j := by
      intro j hj
      unfold updV
      split
      · rename_i e; rw [e]
      · rename_i e; exact h2 j (((hon j).1 hj).resolve_left e)
    by_cases hc : i ∈ ch
    · obtain ⟨k, hk, hki⟩ := List.getElem_of_mem hc
      have hk' : ch[k]? = some i := by rw [List.getElem?_eq_getElem hk, hki]
      have hmk : m ≤ k := Nat.le_of_not_lt fun h => hno ((h5 k i hk').2 h)
      have hm : m = k := by
        cases k with
        | zero => omega
        | succ p =>
          have hp : ch[p]? = some ch[p] := List.getElem?_eq_getElem (by omega)
          have hjp : On l ch[p] := by
            rcases hord p i _ hp hk' with e | ⟨q, e1, e2⟩
            · exact hdep _ e
            · exact h4 q (hdep q e1) _ e2
          have := (h5 p _ hp).1 hjp
          omega
      subst hm
      refine wpOpIn_mono ?_ (hcal x W m i ds[i] h1 hk' hdi hfx)
      rintro a' W' ⟨rfl, hR⟩
      refine ⟨updV x i (V i), m + 1, ?_, hR, hup, ?_, by omega, hcl⟩
      · rw [puts_put ds a0 0 i _ x _ hnd hdi, Nat.zero_add]
      · intro k j hkj
        rw [hon j, h5 k j hkj]
        constructor
        · rintro (rfl | h)
          · by_cases hkm : k < m
            · omega
            · by_cases hkm2 : m < k
              · obtain ⟨p1, p2⟩ := List.getElem?_eq_some_iff.1 hkj
                obtain ⟨q1, q2⟩ := List.getElem?_eq_some_iff.1 hk'
                exact absurd (q2.trans p2.symm) (List.pairwise_iff_getElem.1 hchn m k q1 p1 hkm2)
              · omega
          · omega
        · intro h
          by_cases hkm : k = m
          · subst hkm
            rw [hkj] at hk'
            exact .inl (Option.some.inj hk')
          · exact .inr (by omega)
    · refine wpOpIn_mono ?_ (hfix x W m i ds[i] h1 hdi hc hfx)
      rintro a' W' ⟨rfl, rfl⟩
      refine ⟨updV x i (V i), m, ?_, h1, hup, ?_, h6, hcl⟩
      · rw [puts_put ds a0 0 i _ x _ hnd hdi, Nat.zero_add]
      · intro k j hkj
        have hne : j ≠ i := fun e => hc (e ▸ List.mem_of_getElem? hkj)
        rw [hon j, ← h5 k j hkj]
        exact ⟨fun h => h.resolve_left hne, .inr⟩
  · rintro l a W ⟨x, m, rfl, h1, h2, h5, h6, _⟩ hall
    have hm : m = ch.length := by
      rcases Nat.lt_or_ge m ch.length with h | h
      · have hp : ch[m]? = some ch[m] := List.getElem?_eq_getElem h
        have := (h5 m _ hp).1 (hall _ (hin _ (List.getElem_mem h)))
        omega
      · omega
    subst hm
    rw [puts_same ds a0 0 x V (fun j _ hj => h2 j (hall j (by omega)))]
    exact hdone W h1
  · refine ⟨_, 0, (puts_start a0 ds 0).symm, h0, fun j hj => absurd hj (On.none _ _), fun k j _ => ⟨fun h => absurd h (On.none _ _), fun h => absurd h (Nat.not_lt_zero _)⟩, Nat.zero_le _, fun j hj => absurd hj (On.none _ _)⟩
end
end Go.Proofs.YtohoieleakieeaaGreatDoor
