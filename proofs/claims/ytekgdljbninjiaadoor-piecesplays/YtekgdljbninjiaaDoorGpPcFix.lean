/-
  The value operations of the drawn region of PiecesPlays, for every rest of the law. Written by mkfix9.py.
-/
import Derived.Test.YtekgdljbninjiaaDoorRows
import Derived.Test.YtekgdljbninjiaaDoorGp3
import Derived.Test.YtekgdljbninjiaaDoorGp2
namespace Go.Proofs.YtekgdljbninjiaaDoor
open Go Go.RowKit

/-- A region's operations, by its number. -/
def regOf (id : Nat) : Code → Option (Array Oper)
  | .region j ops _ => if j = id then some ops else none
  | .seq a b => (regOf id a).orElse fun _ => regOf id b
  | .cond _ a b => (regOf id a).orElse fun _ => regOf id b
  | .block _ a => regOf id a
  | .loop a => regOf id a
  | .scope a => regOf id a
  | _ => none
def opsOf (id : Nat) (f : Func) : Array Oper := (f.body.bind (regOf id)).getD #[]
theorem wp_cast {F : Fence} {n : Nat} {P : Program} {ops ops' : Array Oper} {Q : Exit → Act → World → Prop} {i : Nat} {K : Act → World → Prop} {a : Act} {w : World} (h : ops' = ops) (h2 : wpOpIn F n P ops' Q i K a w) : wpOpIn F n P ops Q i K a w := by
  rw [← h]; exact h2
theorem puts_out : ∀ (ds : List Nat) (a : Act) (k : Nat) (x : Nat → Value) (d : Nat), d ∉ ds → (putsV a ds k x).tmps[d]? = a.tmps[d]?
  | [], _, _, _, _, _ => rfl
  | e :: ds, a, k, x, d, h => by
    simp only [List.mem_cons, not_or] at h
    rw [putsV, puts_out ds _ _ _ _ h.2]
    simp only [Act.put]
    rw [Array.getElem?_setIfInBounds_ne (fun q => h.1 q.symm)]
theorem puts_at : ∀ (ds : List Nat) (a : Act) (k : Nat) (x : Nat → Value) (j d : Nat), ds.Nodup → ds[j]? = some d → d < a.tmps.size → (putsV a ds k x).tmps[d]? = some (x (k + j))
  | [], _, _, _, _, _, _, h, _ => by simp at h
  | e :: ds, a, k, x, 0, d, hn, h, hl => by
    simp only [List.getElem?_cons_zero, Option.some.injEq] at h
    subst h
    rw [List.nodup_cons] at hn
    rw [putsV, puts_out ds _ _ _ _ hn.1]
    simp only [Act.put]
    rw [Array.getElem?_setIfInBounds_self_of_lt hl]
    rfl
  | e :: ds, a, k, x, j + 1, d, hn, h, hl => by
    rw [List.nodup_cons] at hn
    rw [List.getElem?_cons_succ] at h
    rw [putsV, puts_at ds _ (k + 1) x j d hn.2 h (by simpa [Act.put] using hl), show k + 1 + j = k + (j + 1) by omega]
theorem eval_at {a : Act} {d : Nat} {v : Value} (h : a.tmps[d]? = some v) : a.eval (.tmp d) = v := by
  show a.tmps.getD d undef = v
  rw [Array.getD_eq_getD_getElem?, h]
  rfl
theorem wanted_no {o : Oper} {y : Nat → Option Bool} (h : o.guard = none) : Region.wanted o y = true := by
  unfold Region.wanted; rw [h]
theorem wanted_of {o : Oper} {y : Nat → Option Bool} {j : Nat} {b : Bool} (h : o.guard = some (j, b)) (hy : y j = some b) : Region.wanted o y = true := by
  unfold Region.wanted; rw [h]; simp [hy]
theorem yield_of {ops : Array Oper} {t : Array Value} {j d : Nat} {b : Bool} (hd : (ops[j]?).bind (·.dst) = some d) (ht : t[d]? = some (.bool b)) : yielded ops t j = some b := by
  unfold yielded; rw [hd]; simp [ht]
section
variable {P : Program} {a : Act} {o : Oper}
theorem run_moveX (x : Operand) (v : Value) (ho : o.op = .move x) (hx : a.eval x = v) (W : World) : (execOp a.eval o).run P W = .ok (.value v) W := by
  unfold execOp
  simp only [ho, hx]
  rfl
theorem run_neqX (t t' : TypeId) (x y : Operand) (e : Int) (ho : o.op = .binOp .neq t x y t') (hx : a.eval x = .int .i64 e) (hy : a.eval y = .int .i64 e) (W : World) : (execOp a.eval o).run P W = .ok (.value (.bool false)) W := by
  unfold execOp
  simp only [ho, hx, hy]
  go_simp
theorem run_notX (t : TypeId) (x : Operand) (ho : o.op = .unOp .not t x) (hx : a.eval x = .bool true) (W : World) : (execOp a.eval o).run P W = .ok (.value (.bool false)) W := by
  unfold execOp
  simp only [ho, hx]
  rfl
theorem run_pickX (x y c : Operand) (ho : o.op = .pick x y c) (hx : a.eval x = .bool false) (hc : a.eval c = .bool false) (W : World) : (execOp a.eval o).run P W = .ok (.value (.bool false)) W := by
  unfold execOp
  simp only [ho, hx, hc]
  rfl
end
theorem run_faX {a : Act} {o : Oper} (bo j : Nat) (hj : j < 3) (x : Operand) (ho : o.op = .fieldAddr 51 x j) (hx : a.eval x = .pointer (some ⟨bo, 0, none⟩)) (W : World) : (execOp a.eval o).run Tryd.prog W = .ok (.value (.pointer (some ⟨bo, j, none⟩))) W := by
  unfold execOp
  simp only [ho, hx]
  rcases (show j = 0 ∨ j = 1 ∨ j = 2 by omega) with rfl | rfl | rfl <;> kernel_rfl
def dep16 : Nat → List Nat
  | 2 => [1]
  | 5 => [4]
  | 6 => [0, 2, 3, 5]
  | 9 => [8]
  | 11 => [10]
  | 13 => [12]
  | 14 => [7, 9, 11, 13, 6]
  | 15 => [6, 14]
  | 16 => [15, 14]
  | 17 => [16]
  | 18 => [16]
  | 19 => [18, 16]
  | 20 => [17, 19, 16]
  | 21 => [20, 16]
  | 22 => [16, 21]
  | 23 => [22, 20]
  | 24 => [23]
  | 25 => [23]
  | 26 => [25, 23]
  | 27 => [23]
  | 28 => [23]
  | 29 => [28, 23]
  | 30 => [24, 26, 27, 29, 23]
  | 31 => [30, 23]
  | 32 => [23, 31]
  | 33 => [32, 30]
  | 34 => [33]
  | 35 => [33]
  | 36 => [35, 33]
  | 37 => [33]
  | 38 => [33]
  | 39 => [38, 33]
  | 40 => [34, 36, 37, 39, 33]
  | 41 => [40, 33]
  | 42 => [33, 41]
  | _ => []
def val16 (P R : Option Addr) (bo tw z at_ E : Nat) (sb : SL) (lst : Bool) : Nat → Value
  | 0 => .pointer P
  | 1 => .pointer (some ⟨bo, 0, none⟩)
  | 2 => .int .u64 (at_ : Int)
  | 3 => .slice (some ⟨tw, 0, none⟩) sb.len (sb.len + 1)
  | 4 => .pointer (some ⟨bo, 2, none⟩)
  | 5 => .bool lst
  | 6 => .int .i64 (E : Int)
  | 7 => .pointer R
  | 8 => .pointer (some ⟨bo, 0, none⟩)
  | 9 => .int .u64 (at_ : Int)
  | 10 => .pointer (some ⟨bo, 1, none⟩)
  | 11 => .slice sb.a sb.len sb.cap
  | 12 => .pointer (some ⟨bo, 2, none⟩)
  | 13 => .bool lst
  | 14 => .int .i64 (E : Int)
  | 15 => .bool false
  | 16 => .bool false
  | 17 => .slice (some ⟨tw, 0, none⟩) sb.len (sb.len + 1)
  | 18 => .pointer (some ⟨bo, 1, none⟩)
  | 19 => .slice sb.a sb.len sb.cap
  | 20 => .bool true
  | 21 => .bool false
  | 22 => .bool false
  | 23 => .bool false
  | 24 => .pointer (some ⟨z, 0, none⟩)
  | 25 => .pointer (some ⟨bo, 0, none⟩)
  | 26 => .int .u64 (at_ : Int)
  | 27 => .slice (some ⟨tw, 0, none⟩) sb.len (sb.len + 1)
  | 28 => .pointer (some ⟨bo, 2, none⟩)
  | 29 => .bool lst
  | 30 => .int .i64 2
  | 31 => .bool false
  | 32 => .bool false
  | 33 => .bool false
  | 34 => .pointer none
  | 35 => .pointer (some ⟨bo, 0, none⟩)
  | 36 => .int .u64 (at_ : Int)
  | 37 => .slice (some ⟨tw, 0, none⟩) sb.len (sb.len + 1)
  | 38 => .pointer (some ⟨bo, 2, none⟩)
  | 39 => .bool lst
  | 40 => .int .i64 2
  | 41 => .bool false
  | _ => .bool false
def ds16 : List Nat := [81, 82, 83, 84, 85, 86, 87, 88, 89, 90, 91, 92, 93, 94, 95, 96, 97, 98, 99, 100, 101, 102, 103, 104, 105, 106, 107, 108, 109, 110, 111, 112, 113, 114, 115, 116, 117, 118, 119, 120, 121, 122, 123]
section
variable {F : Fence} {n : Nat} {Q : Exit → Act → World → Prop} {P R : Option Addr} {bo tw z at_ E : Nat} {sb : SL} {lst : Bool} {a : Act} {W : World}
theorem fix16_0 (t5 : a.tmps[5]? = some (.pointer P)) (_ht : ∀ j ∈ dep16 0, a.tmps[81 + j]? = some (val16 P R bo tw z at_ E sb lst j)) : wpOpIn F n Tryd.prog (opsOf 16 Tryd.f3) Q 0 (fun a' W' => a' = a.put (some 81) (val16 P R bo tw z at_ E sb lst 0) ∧ W' = W) a W := by
  have h1 : 0 < (opsOf 16 Tryd.f3).size := of_decide_eq_true (by kernel_rfl)
  have o1 : ((opsOf 16 Tryd.f3)[0]'h1).op = .move (.tmp 5) := by kernel_rfl
  have o2 : ((opsOf 16 Tryd.f3)[0]'h1).guard = none := by kernel_rfl
  have o3 : ((opsOf 16 Tryd.f3)[0]'h1).dst = some 81 := by kernel_rfl
  refine OI_value2 h1 (wanted_no o2) (about_none (by rw [o1]; intro c h; cases h)) (by rw [o1]; intro c h; cases h) _ W (run_moveX _ _ o1 (eval_at t5) W) ⟨by rw [o3]; rfl, rfl⟩
theorem fix16_1 (t13 : a.tmps[13]? = some (.pointer (some ⟨bo, 0, none⟩))) (_ht : ∀ j ∈ dep16 1, a.tmps[81 + j]? = some (val16 P R bo tw z at_ E sb lst j)) : wpOpIn F n Tryd.prog (opsOf 16 Tryd.f3) Q 1 (fun a' W' => a' = a.put (some 82) (val16 P R bo tw z at_ E sb lst 1) ∧ W' = W) a W := by
  have h1 : 1 < (opsOf 16 Tryd.f3).size := of_decide_eq_true (by kernel_rfl)
  have o1 : ((opsOf 16 Tryd.f3)[1]'h1).op = .fieldAddr 51 (.tmp 13) 0 := by kernel_rfl
  have o2 : ((opsOf 16 Tryd.f3)[1]'h1).guard = none := by kernel_rfl
  have o3 : ((opsOf 16 Tryd.f3)[1]'h1).dst = some 82 := by kernel_rfl
  refine OI_value2 h1 (wanted_no o2) (about_none (by rw [o1]; intro c h; cases h)) (by rw [o1]; intro c h; cases h) _ W (run_faX bo 0 (by decide) _ o1 (eval_at t13) W) ⟨by rw [o3]; rfl, rfl⟩
theorem fix16_2 (ht : ∀ j ∈ dep16 2, a.tmps[81 + j]? = some (val16 P R bo tw z at_ E sb lst j)) (q : W.cell? ⟨bo, 0, none⟩ = some (.int .u64 (at_ : Int))) : wpOpIn F n Tryd.prog (opsOf 16 Tryd.f3) Q 2 (fun a' W' => a' = a.put (some 83) (val16 P R bo tw z at_ E sb lst 2) ∧ W' = W) a W := by
  have h1 : 2 < (opsOf 16 Tryd.f3).size := of_decide_eq_true (by kernel_rfl)
  have o1 : ((opsOf 16 Tryd.f3)[2]'h1).op = .load 31 (.tmp 82) := by kernel_rfl
  have o2 : ((opsOf 16 Tryd.f3)[2]'h1).guard = none := by kernel_rfl
  have o3 : ((opsOf 16 Tryd.f3)[2]'h1).dst = some 83 := by kernel_rfl
  refine OI_value2 h1 (wanted_no o2) (about_none (by rw [o1]; intro c h; cases h)) (by rw [o1]; intro c h; cases h) _ W (run_cellP 31 _ ⟨bo, 0, none⟩ _ _ o1 (eval_at (ht 1 (by simp [dep16]))) Tryd.underlying31 rfl W q) ⟨by rw [o3]; rfl, rfl⟩
theorem fix16_3 (t14 : a.tmps[14]? = some (.slice (some ⟨tw, 0, none⟩) sb.len (sb.len + 1))) (_ht : ∀ j ∈ dep16 3, a.tmps[81 + j]? = some (val16 P R bo tw z at_ E sb lst j)) : wpOpIn F n Tryd.prog (opsOf 16 Tryd.f3) Q 3 (fun a' W' => a' = a.put (some 84) (val16 P R bo tw z at_ E sb lst 3) ∧ W' = W) a W := by
  have h1 : 3 < (opsOf 16 Tryd.f3).size := of_decide_eq_true (by kernel_rfl)
  have o1 : ((opsOf 16 Tryd.f3)[3]'h1).op = .move (.tmp 14) := by kernel_rfl
  have o2 : ((opsOf 16 Tryd.f3)[3]'h1).guard = none := by kernel_rfl
  have o3 : ((opsOf 16 Tryd.f3)[3]'h1).dst = some 84 := by kernel_rfl
  refine OI_value2 h1 (wanted_no o2) (about_none (by rw [o1]; intro c h; cases h)) (by rw [o1]; intro c h; cases h) _ W (run_moveX _ _ o1 (eval_at t14) W) ⟨by rw [o3]; rfl, rfl⟩
theorem fix16_4 (t13 : a.tmps[13]? = some (.pointer (some ⟨bo, 0, none⟩))) (_ht : ∀ j ∈ dep16 4, a.tmps[81 + j]? = some (val16 P R bo tw z at_ E sb lst j)) : wpOpIn F n Tryd.prog (opsOf 16 Tryd.f3) Q 4 (fun a' W' => a' = a.put (some 85) (val16 P R bo tw z at_ E sb lst 4) ∧ W' = W) a W := by
  have h1 : 4 < (opsOf 16 Tryd.f3).size := of_decide_eq_true (by kernel_rfl)
  have o1 : ((opsOf 16 Tryd.f3)[4]'h1).op = .fieldAddr 51 (.tmp 13) 2 := by kernel_rfl
  have o2 : ((opsOf 16 Tryd.f3)[4]'h1).guard = none := by kernel_rfl
  have o3 : ((opsOf 16 Tryd.f3)[4]'h1).dst = some 85 := by kernel_rfl
  refine OI_value2 h1 (wanted_no o2) (about_none (by rw [o1]; intro c h; cases h)) (by rw [o1]; intro c h; cases h) _ W (run_faX bo 2 (by decide) _ o1 (eval_at t13) W) ⟨by rw [o3]; rfl, rfl⟩
theorem fix16_5 (ht : ∀ j ∈ dep16 5, a.tmps[81 + j]? = some (val16 P R bo tw z at_ E sb lst j)) (q : W.cell? ⟨bo, 2, none⟩ = some (.bool lst)) : wpOpIn F n Tryd.prog (opsOf 16 Tryd.f3) Q 5 (fun a' W' => a' = a.put (some 86) (val16 P R bo tw z at_ E sb lst 5) ∧ W' = W) a W := by
  have h1 : 5 < (opsOf 16 Tryd.f3).size := of_decide_eq_true (by kernel_rfl)
  have o1 : ((opsOf 16 Tryd.f3)[5]'h1).op = .load 4 (.tmp 85) := by kernel_rfl
  have o2 : ((opsOf 16 Tryd.f3)[5]'h1).guard = none := by kernel_rfl
  have o3 : ((opsOf 16 Tryd.f3)[5]'h1).dst = some 86 := by kernel_rfl
  refine OI_value2 h1 (wanted_no o2) (about_none (by rw [o1]; intro c h; cases h)) (by rw [o1]; intro c h; cases h) _ W (run_cellP 4 _ ⟨bo, 2, none⟩ _ _ o1 (eval_at (ht 4 (by simp [dep16]))) Tryd.underlying4 rfl W q) ⟨by rw [o3]; rfl, rfl⟩
theorem fix16_7 (t7 : a.tmps[7]? = some (.pointer R)) (_ht : ∀ j ∈ dep16 7, a.tmps[81 + j]? = some (val16 P R bo tw z at_ E sb lst j)) : wpOpIn F n Tryd.prog (opsOf 16 Tryd.f3) Q 7 (fun a' W' => a' = a.put (some 88) (val16 P R bo tw z at_ E sb lst 7) ∧ W' = W) a W := by
  have h1 : 7 < (opsOf 16 Tryd.f3).size := of_decide_eq_true (by kernel_rfl)
  have o1 : ((opsOf 16 Tryd.f3)[7]'h1).op = .move (.tmp 7) := by kernel_rfl
  have o2 : ((opsOf 16 Tryd.f3)[7]'h1).guard = none := by kernel_rfl
  have o3 : ((opsOf 16 Tryd.f3)[7]'h1).dst = some 88 := by kernel_rfl
  refine OI_value2 h1 (wanted_no o2) (about_none (by rw [o1]; intro c h; cases h)) (by rw [o1]; intro c h; cases h) _ W (run_moveX _ _ o1 (eval_at t7) W) ⟨by rw [o3]; rfl, rfl⟩
theorem fix16_8 (t13 : a.tmps[13]? = some (.pointer (some ⟨bo, 0, none⟩))) (_ht : ∀ j ∈ dep16 8, a.tmps[81 + j]? = some (val16 P R bo tw z at_ E sb lst j)) : wpOpIn F n Tryd.prog (opsOf 16 Tryd.f3) Q 8 (fun a' W' => a' = a.put (some 89) (val16 P R bo tw z at_ E sb lst 8) ∧ W' = W) a W := by
  have h1 : 8 < (opsOf 16 Tryd.f3).size := of_decide_eq_true (by kernel_rfl)
  have o1 : ((opsOf 16 Tryd.f3)[8]'h1).op = .fieldAddr 51 (.tmp 13) 0 := by kernel_rfl
  have o2 : ((opsOf 16 Tryd.f3)[8]'h1).guard = none := by kernel_rfl
  have o3 : ((opsOf 16 Tryd.f3)[8]'h1).dst = some 89 := by kernel_rfl
  refine OI_value2 h1 (wanted_no o2) (about_none (by rw [o1]; intro c h; cases h)) (by rw [o1]; intro c h; cases h) _ W (run_faX bo 0 (by decide) _ o1 (eval_at t13) W) ⟨by rw [o3]; rfl, rfl⟩
theorem fix16_9 (ht : ∀ j ∈ dep16 9, a.tmps[81 + j]? = some (val16 P R bo tw z at_ E sb lst j)) (q : W.cell? ⟨bo, 0, none⟩ = some (.int .u64 (at_ : Int))) : wpOpIn F n Tryd.prog (opsOf 16 Tryd.f3) Q 9 (fun a' W' => a' = a.put (some 90) (val16 P R bo tw z at_ E sb lst 9) ∧ W' = W) a W := by
  have h1 : 9 < (opsOf 16 Tryd.f3).size := of_decide_eq_true (by kernel_rfl)
  have o1 : ((opsOf 16 Tryd.f3)[9]'h1).op = .load 31 (.tmp 89) := by kernel_rfl
  have o2 : ((opsOf 16 Tryd.f3)[9]'h1).guard = none := by kernel_rfl
  have o3 : ((opsOf 16 Tryd.f3)[9]'h1).dst = some 90 := by kernel_rfl
  refine OI_value2 h1 (wanted_no o2) (about_none (by rw [o1]; intro c h; cases h)) (by rw [o1]; intro c h; cases h) _ W (run_cellP 31 _ ⟨bo, 0, none⟩ _ _ o1 (eval_at (ht 8 (by simp [dep16]))) Tryd.underlying31 rfl W q) ⟨by rw [o3]; rfl, rfl⟩
theorem fix16_10 (t13 : a.tmps[13]? = some (.pointer (some ⟨bo, 0, none⟩))) (_ht : ∀ j ∈ dep16 10, a.tmps[81 + j]? = some (val16 P R bo tw z at_ E sb lst j)) : wpOpIn F n Tryd.prog (opsOf 16 Tryd.f3) Q 10 (fun a' W' => a' = a.put (some 91) (val16 P R bo tw z at_ E sb lst 10) ∧ W' = W) a W := by
  have h1 : 10 < (opsOf 16 Tryd.f3).size := of_decide_eq_true (by kernel_rfl)
  have o1 : ((opsOf 16 Tryd.f3)[10]'h1).op = .fieldAddr 51 (.tmp 13) 1 := by kernel_rfl
  have o2 : ((opsOf 16 Tryd.f3)[10]'h1).guard = none := by kernel_rfl
  have o3 : ((opsOf 16 Tryd.f3)[10]'h1).dst = some 91 := by kernel_rfl
  refine OI_value2 h1 (wanted_no o2) (about_none (by rw [o1]; intro c h; cases h)) (by rw [o1]; intro c h; cases h) _ W (run_faX bo 1 (by decide) _ o1 (eval_at t13) W) ⟨by rw [o3]; rfl, rfl⟩
theorem fix16_11 (ht : ∀ j ∈ dep16 11, a.tmps[81 + j]? = some (val16 P R bo tw z at_ E sb lst j)) (q : W.cell? ⟨bo, 1, none⟩ = some (.slice sb.a sb.len sb.cap)) : wpOpIn F n Tryd.prog (opsOf 16 Tryd.f3) Q 11 (fun a' W' => a' = a.put (some 92) (val16 P R bo tw z at_ E sb lst 11) ∧ W' = W) a W := by
  have h1 : 11 < (opsOf 16 Tryd.f3).size := of_decide_eq_true (by kernel_rfl)
  have o1 : ((opsOf 16 Tryd.f3)[11]'h1).op = .load 49 (.tmp 91) := by kernel_rfl
  have o2 : ((opsOf 16 Tryd.f3)[11]'h1).guard = none := by kernel_rfl
  have o3 : ((opsOf 16 Tryd.f3)[11]'h1).dst = some 92 := by kernel_rfl
  refine OI_value2 h1 (wanted_no o2) (about_none (by rw [o1]; intro c h; cases h)) (by rw [o1]; intro c h; cases h) _ W (run_cellP 49 _ ⟨bo, 1, none⟩ _ _ o1 (eval_at (ht 10 (by simp [dep16]))) Tryd.underlying49 rfl W q) ⟨by rw [o3]; rfl, rfl⟩
theorem fix16_12 (t13 : a.tmps[13]? = some (.pointer (some ⟨bo, 0, none⟩))) (_ht : ∀ j ∈ dep16 12, a.tmps[81 + j]? = some (val16 P R bo tw z at_ E sb lst j)) : wpOpIn F n Tryd.prog (opsOf 16 Tryd.f3) Q 12 (fun a' W' => a' = a.put (some 93) (val16 P R bo tw z at_ E sb lst 12) ∧ W' = W) a W := by
  have h1 : 12 < (opsOf 16 Tryd.f3).size := of_decide_eq_true (by kernel_rfl)
  have o1 : ((opsOf 16 Tryd.f3)[12]'h1).op = .fieldAddr 51 (.tmp 13) 2 := by kernel_rfl
  have o2 : ((opsOf 16 Tryd.f3)[12]'h1).guard = none := by kernel_rfl
  have o3 : ((opsOf 16 Tryd.f3)[12]'h1).dst = some 93 := by kernel_rfl
  refine OI_value2 h1 (wanted_no o2) (about_none (by rw [o1]; intro c h; cases h)) (by rw [o1]; intro c h; cases h) _ W (run_faX bo 2 (by decide) _ o1 (eval_at t13) W) ⟨by rw [o3]; rfl, rfl⟩
theorem fix16_13 (ht : ∀ j ∈ dep16 13, a.tmps[81 + j]? = some (val16 P R bo tw z at_ E sb lst j)) (q : W.cell? ⟨bo, 2, none⟩ = some (.bool lst)) : wpOpIn F n Tryd.prog (opsOf 16 Tryd.f3) Q 13 (fun a' W' => a' = a.put (some 94) (val16 P R bo tw z at_ E sb lst 13) ∧ W' = W) a W := by
  have h1 : 13 < (opsOf 16 Tryd.f3).size := of_decide_eq_true (by kernel_rfl)
  have o1 : ((opsOf 16 Tryd.f3)[13]'h1).op = .load 4 (.tmp 93) := by kernel_rfl
  have o2 : ((opsOf 16 Tryd.f3)[13]'h1).guard = none := by kernel_rfl
  have o3 : ((opsOf 16 Tryd.f3)[13]'h1).dst = some 94 := by kernel_rfl
  refine OI_value2 h1 (wanted_no o2) (about_none (by rw [o1]; intro c h; cases h)) (by rw [o1]; intro c h; cases h) _ W (run_cellP 4 _ ⟨bo, 2, none⟩ _ _ o1 (eval_at (ht 12 (by simp [dep16]))) Tryd.underlying4 rfl W q) ⟨by rw [o3]; rfl, rfl⟩
theorem fix16_15 (ht : ∀ j ∈ dep16 15, a.tmps[81 + j]? = some (val16 P R bo tw z at_ E sb lst j)) : wpOpIn F n Tryd.prog (opsOf 16 Tryd.f3) Q 15 (fun a' W' => a' = a.put (some 96) (val16 P R bo tw z at_ E sb lst 15) ∧ W' = W) a W := by
  have h1 : 15 < (opsOf 16 Tryd.f3).size := of_decide_eq_true (by kernel_rfl)
  have o1 : ((opsOf 16 Tryd.f3)[15]'h1).op = .binOp .neq 25 (.tmp 87) (.tmp 95) 25 := by kernel_rfl
  have o2 : ((opsOf 16 Tryd.f3)[15]'h1).guard = none := by kernel_rfl
  have o3 : ((opsOf 16 Tryd.f3)[15]'h1).dst = some 96 := by kernel_rfl
  refine OI_value2 h1 (wanted_no o2) (about_none (by rw [o1]; intro c h; cases h)) (by rw [o1]; intro c h; cases h) _ W (run_neqX _ _ _ _ (E : Int) o1 (eval_at (ht 6 (by simp [dep16]))) (eval_at (ht 14 (by simp [dep16]))) W) ⟨by rw [o3]; rfl, rfl⟩
theorem fix16_16 (ht : ∀ j ∈ dep16 16, a.tmps[81 + j]? = some (val16 P R bo tw z at_ E sb lst j)) : wpOpIn F n Tryd.prog (opsOf 16 Tryd.f3) Q 16 (fun a' W' => a' = a.put (some 97) (val16 P R bo tw z at_ E sb lst 16) ∧ W' = W) a W := by
  have h1 : 16 < (opsOf 16 Tryd.f3).size := of_decide_eq_true (by kernel_rfl)
  have o1 : ((opsOf 16 Tryd.f3)[16]'h1).op = .move (.tmp 96) := by kernel_rfl
  have o2 : ((opsOf 16 Tryd.f3)[16]'h1).guard = none := by kernel_rfl
  have o3 : ((opsOf 16 Tryd.f3)[16]'h1).dst = some 97 := by kernel_rfl
  refine OI_value2 h1 (wanted_no o2) (about_none (by rw [o1]; intro c h; cases h)) (by rw [o1]; intro c h; cases h) _ W (run_moveX _ _ o1 (eval_at (ht 15 (by simp [dep16]))) W) ⟨by rw [o3]; rfl, rfl⟩
theorem fix16_17 (t14 : a.tmps[14]? = some (.slice (some ⟨tw, 0, none⟩) sb.len (sb.len + 1))) (ht : ∀ j ∈ dep16 17, a.tmps[81 + j]? = some (val16 P R bo tw z at_ E sb lst j)) : wpOpIn F n Tryd.prog (opsOf 16 Tryd.f3) Q 17 (fun a' W' => a' = a.put (some 98) (val16 P R bo tw z at_ E sb lst 17) ∧ W' = W) a W := by
  have h1 : 17 < (opsOf 16 Tryd.f3).size := of_decide_eq_true (by kernel_rfl)
  have o1 : ((opsOf 16 Tryd.f3)[17]'h1).op = .move (.tmp 14) := by kernel_rfl
  have o2 : ((opsOf 16 Tryd.f3)[17]'h1).guard = some (16, false) := by kernel_rfl
  have o3 : ((opsOf 16 Tryd.f3)[17]'h1).dst = some 98 := by kernel_rfl
  refine OI_value2 h1 (wanted_of o2 (yield_of (d := 97) (by kernel_rfl) (ht 16 (by simp [dep16])))) (about_none (by rw [o1]; intro c h; cases h)) (by rw [o1]; intro c h; cases h) _ W (run_moveX _ _ o1 (eval_at t14) W) ⟨by rw [o3]; rfl, rfl⟩
theorem fix16_18 (t13 : a.tmps[13]? = some (.pointer (some ⟨bo, 0, none⟩))) (ht : ∀ j ∈ dep16 18, a.tmps[81 + j]? = some (val16 P R bo tw z at_ E sb lst j)) : wpOpIn F n Tryd.prog (opsOf 16 Tryd.f3) Q 18 (fun a' W' => a' = a.put (some 99) (val16 P R bo tw z at_ E sb lst 18) ∧ W' = W) a W := by
  have h1 : 18 < (opsOf 16 Tryd.f3).size := of_decide_eq_true (by kernel_rfl)
  have o1 : ((opsOf 16 Tryd.f3)[18]'h1).op = .fieldAddr 51 (.tmp 13) 1 := by kernel_rfl
  have o2 : ((opsOf 16 Tryd.f3)[18]'h1).guard = some (16, false) := by kernel_rfl
  have o3 : ((opsOf 16 Tryd.f3)[18]'h1).dst = some 99 := by kernel_rfl
  refine OI_value2 h1 (wanted_of o2 (yield_of (d := 97) (by kernel_rfl) (ht 16 (by simp [dep16])))) (about_none (by rw [o1]; intro c h; cases h)) (by rw [o1]; intro c h; cases h) _ W (run_faX bo 1 (by decide) _ o1 (eval_at t13) W) ⟨by rw [o3]; rfl, rfl⟩
theorem fix16_19 (ht : ∀ j ∈ dep16 19, a.tmps[81 + j]? = some (val16 P R bo tw z at_ E sb lst j)) (q : W.cell? ⟨bo, 1, none⟩ = some (.slice sb.a sb.len sb.cap)) : wpOpIn F n Tryd.prog (opsOf 16 Tryd.f3) Q 19 (fun a' W' => a' = a.put (some 100) (val16 P R bo tw z at_ E sb lst 19) ∧ W' = W) a W := by
  have h1 : 19 < (opsOf 16 Tryd.f3).size := of_decide_eq_true (by kernel_rfl)
  have o1 : ((opsOf 16 Tryd.f3)[19]'h1).op = .load 49 (.tmp 99) := by kernel_rfl
  have o2 : ((opsOf 16 Tryd.f3)[19]'h1).guard = some (16, false) := by kernel_rfl
  have o3 : ((opsOf 16 Tryd.f3)[19]'h1).dst = some 100 := by kernel_rfl
  refine OI_value2 h1 (wanted_of o2 (yield_of (d := 97) (by kernel_rfl) (ht 16 (by simp [dep16])))) (about_none (by rw [o1]; intro c h; cases h)) (by rw [o1]; intro c h; cases h) _ W (run_cellP 49 _ ⟨bo, 1, none⟩ _ _ o1 (eval_at (ht 18 (by simp [dep16]))) Tryd.underlying49 rfl W q) ⟨by rw [o3]; rfl, rfl⟩
theorem fix16_21 (ht : ∀ j ∈ dep16 21, a.tmps[81 + j]? = some (val16 P R bo tw z at_ E sb lst j)) : wpOpIn F n Tryd.prog (opsOf 16 Tryd.f3) Q 21 (fun a' W' => a' = a.put (some 102) (val16 P R bo tw z at_ E sb lst 21) ∧ W' = W) a W := by
  have h1 : 21 < (opsOf 16 Tryd.f3).size := of_decide_eq_true (by kernel_rfl)
  have o1 : ((opsOf 16 Tryd.f3)[21]'h1).op = .unOp .not 4 (.tmp 101) := by kernel_rfl
  have o2 : ((opsOf 16 Tryd.f3)[21]'h1).guard = some (16, false) := by kernel_rfl
  have o3 : ((opsOf 16 Tryd.f3)[21]'h1).dst = some 102 := by kernel_rfl
  refine OI_value2 h1 (wanted_of o2 (yield_of (d := 97) (by kernel_rfl) (ht 16 (by simp [dep16])))) (about_none (by rw [o1]; intro c h; cases h)) (by rw [o1]; intro c h; cases h) _ W (run_notX _ _ o1 (eval_at (ht 20 (by simp [dep16]))) W) ⟨by rw [o3]; rfl, rfl⟩
theorem fix16_22 (ht : ∀ j ∈ dep16 22, a.tmps[81 + j]? = some (val16 P R bo tw z at_ E sb lst j)) : wpOpIn F n Tryd.prog (opsOf 16 Tryd.f3) Q 22 (fun a' W' => a' = a.put (some 103) (val16 P R bo tw z at_ E sb lst 22) ∧ W' = W) a W := by
  have h1 : 22 < (opsOf 16 Tryd.f3).size := of_decide_eq_true (by kernel_rfl)
  have o1 : ((opsOf 16 Tryd.f3)[22]'h1).op = .pick (.tmp 97) (.const (.bool true)) (.tmp 102) := by kernel_rfl
  have o2 : ((opsOf 16 Tryd.f3)[22]'h1).guard = none := by kernel_rfl
  have o3 : ((opsOf 16 Tryd.f3)[22]'h1).dst = some 103 := by kernel_rfl
  refine OI_value2 h1 (wanted_no o2) (about_none (by rw [o1]; intro c h; cases h)) (by rw [o1]; intro c h; cases h) _ W (run_pickX _ _ _ o1 (eval_at (ht 16 (by simp [dep16]))) (eval_at (ht 21 (by simp [dep16]))) W) ⟨by rw [o3]; rfl, rfl⟩
theorem fix16_23 (ht : ∀ j ∈ dep16 23, a.tmps[81 + j]? = some (val16 P R bo tw z at_ E sb lst j)) : wpOpIn F n Tryd.prog (opsOf 16 Tryd.f3) Q 23 (fun a' W' => a' = a.put (some 104) (val16 P R bo tw z at_ E sb lst 23) ∧ W' = W) a W := by
  have h1 : 23 < (opsOf 16 Tryd.f3).size := of_decide_eq_true (by kernel_rfl)
  have o1 : ((opsOf 16 Tryd.f3)[23]'h1).op = .move (.tmp 103) := by kernel_rfl
  have o2 : ((opsOf 16 Tryd.f3)[23]'h1).guard = none := by kernel_rfl
  have o3 : ((opsOf 16 Tryd.f3)[23]'h1).dst = some 104 := by kernel_rfl
  refine OI_value2 h1 (wanted_no o2) (about_none (by rw [o1]; intro c h; cases h)) (by rw [o1]; intro c h; cases h) _ W (run_moveX _ _ o1 (eval_at (ht 22 (by simp [dep16]))) W) ⟨by rw [o3]; rfl, rfl⟩
theorem fix16_24 (t9 : a.tmps[9]? = some (.pointer (some ⟨z, 0, none⟩))) (ht : ∀ j ∈ dep16 24, a.tmps[81 + j]? = some (val16 P R bo tw z at_ E sb lst j)) : wpOpIn F n Tryd.prog (opsOf 16 Tryd.f3) Q 24 (fun a' W' => a' = a.put (some 105) (val16 P R bo tw z at_ E sb lst 24) ∧ W' = W) a W := by
  have h1 : 24 < (opsOf 16 Tryd.f3).size := of_decide_eq_true (by kernel_rfl)
  have o1 : ((opsOf 16 Tryd.f3)[24]'h1).op = .move (.tmp 9) := by kernel_rfl
  have o2 : ((opsOf 16 Tryd.f3)[24]'h1).guard = some (23, false) := by kernel_rfl
  have o3 : ((opsOf 16 Tryd.f3)[24]'h1).dst = some 105 := by kernel_rfl
  refine OI_value2 h1 (wanted_of o2 (yield_of (d := 104) (by kernel_rfl) (ht 23 (by simp [dep16])))) (about_none (by rw [o1]; intro c h; cases h)) (by rw [o1]; intro c h; cases h) _ W (run_moveX _ _ o1 (eval_at t9) W) ⟨by rw [o3]; rfl, rfl⟩
theorem fix16_25 (t13 : a.tmps[13]? = some (.pointer (some ⟨bo, 0, none⟩))) (ht : ∀ j ∈ dep16 25, a.tmps[81 + j]? = some (val16 P R bo tw z at_ E sb lst j)) : wpOpIn F n Tryd.prog (opsOf 16 Tryd.f3) Q 25 (fun a' W' => a' = a.put (some 106) (val16 P R bo tw z at_ E sb lst 25) ∧ W' = W) a W := by
  have h1 : 25 < (opsOf 16 Tryd.f3).size := of_decide_eq_true (by kernel_rfl)
  have o1 : ((opsOf 16 Tryd.f3)[25]'h1).op = .fieldAddr 51 (.tmp 13) 0 := by kernel_rfl
  have o2 : ((opsOf 16 Tryd.f3)[25]'h1).guard = some (23, false) := by kernel_rfl
  have o3 : ((opsOf 16 Tryd.f3)[25]'h1).dst = some 106 := by kernel_rfl
  refine OI_value2 h1 (wanted_of o2 (yield_of (d := 104) (by kernel_rfl) (ht 23 (by simp [dep16])))) (about_none (by rw [o1]; intro c h; cases h)) (by rw [o1]; intro c h; cases h) _ W (run_faX bo 0 (by decide) _ o1 (eval_at t13) W) ⟨by rw [o3]; rfl, rfl⟩
theorem fix16_26 (ht : ∀ j ∈ dep16 26, a.tmps[81 + j]? = some (val16 P R bo tw z at_ E sb lst j)) (q : W.cell? ⟨bo, 0, none⟩ = some (.int .u64 (at_ : Int))) : wpOpIn F n Tryd.prog (opsOf 16 Tryd.f3) Q 26 (fun a' W' => a' = a.put (some 107) (val16 P R bo tw z at_ E sb lst 26) ∧ W' = W) a W := by
  have h1 : 26 < (opsOf 16 Tryd.f3).size := of_decide_eq_true (by kernel_rfl)
  have o1 : ((opsOf 16 Tryd.f3)[26]'h1).op = .load 31 (.tmp 106) := by kernel_rfl
  have o2 : ((opsOf 16 Tryd.f3)[26]'h1).guard = some (23, false) := by kernel_rfl
  have o3 : ((opsOf 16 Tryd.f3)[26]'h1).dst = some 107 := by kernel_rfl
  refine OI_value2 h1 (wanted_of o2 (yield_of (d := 104) (by kernel_rfl) (ht 23 (by simp [dep16])))) (about_none (by rw [o1]; intro c h; cases h)) (by rw [o1]; intro c h; cases h) _ W (run_cellP 31 _ ⟨bo, 0, none⟩ _ _ o1 (eval_at (ht 25 (by simp [dep16]))) Tryd.underlying31 rfl W q) ⟨by rw [o3]; rfl, rfl⟩
theorem fix16_27 (t14 : a.tmps[14]? = some (.slice (some ⟨tw, 0, none⟩) sb.len (sb.len + 1))) (ht : ∀ j ∈ dep16 27, a.tmps[81 + j]? = some (val16 P R bo tw z at_ E sb lst j)) : wpOpIn F n Tryd.prog (opsOf 16 Tryd.f3) Q 27 (fun a' W' => a' = a.put (some 108) (val16 P R bo tw z at_ E sb lst 27) ∧ W' = W) a W := by
  have h1 : 27 < (opsOf 16 Tryd.f3).size := of_decide_eq_true (by kernel_rfl)
  have o1 : ((opsOf 16 Tryd.f3)[27]'h1).op = .move (.tmp 14) := by kernel_rfl
  have o2 : ((opsOf 16 Tryd.f3)[27]'h1).guard = some (23, false) := by kernel_rfl
  have o3 : ((opsOf 16 Tryd.f3)[27]'h1).dst = some 108 := by kernel_rfl
  refine OI_value2 h1 (wanted_of o2 (yield_of (d := 104) (by kernel_rfl) (ht 23 (by simp [dep16])))) (about_none (by rw [o1]; intro c h; cases h)) (by rw [o1]; intro c h; cases h) _ W (run_moveX _ _ o1 (eval_at t14) W) ⟨by rw [o3]; rfl, rfl⟩
theorem fix16_28 (t13 : a.tmps[13]? = some (.pointer (some ⟨bo, 0, none⟩))) (ht : ∀ j ∈ dep16 28, a.tmps[81 + j]? = some (val16 P R bo tw z at_ E sb lst j)) : wpOpIn F n Tryd.prog (opsOf 16 Tryd.f3) Q 28 (fun a' W' => a' = a.put (some 109) (val16 P R bo tw z at_ E sb lst 28) ∧ W' = W) a W := by
  have h1 : 28 < (opsOf 16 Tryd.f3).size := of_decide_eq_true (by kernel_rfl)
  have o1 : ((opsOf 16 Tryd.f3)[28]'h1).op = .fieldAddr 51 (.tmp 13) 2 := by kernel_rfl
  have o2 : ((opsOf 16 Tryd.f3)[28]'h1).guard = some (23, false) := by kernel_rfl
  have o3 : ((opsOf 16 Tryd.f3)[28]'h1).dst = some 109 := by kernel_rfl
  refine OI_value2 h1 (wanted_of o2 (yield_of (d := 104) (by kernel_rfl) (ht 23 (by simp [dep16])))) (about_none (by rw [o1]; intro c h; cases h)) (by rw [o1]; intro c h; cases h) _ W (run_faX bo 2 (by decide) _ o1 (eval_at t13) W) ⟨by rw [o3]; rfl, rfl⟩
theorem fix16_29 (ht : ∀ j ∈ dep16 29, a.tmps[81 + j]? = some (val16 P R bo tw z at_ E sb lst j)) (q : W.cell? ⟨bo, 2, none⟩ = some (.bool lst)) : wpOpIn F n Tryd.prog (opsOf 16 Tryd.f3) Q 29 (fun a' W' => a' = a.put (some 110) (val16 P R bo tw z at_ E sb lst 29) ∧ W' = W) a W := by
  have h1 : 29 < (opsOf 16 Tryd.f3).size := of_decide_eq_true (by kernel_rfl)
  have o1 : ((opsOf 16 Tryd.f3)[29]'h1).op = .load 4 (.tmp 109) := by kernel_rfl
  have o2 : ((opsOf 16 Tryd.f3)[29]'h1).guard = some (23, false) := by kernel_rfl
  have o3 : ((opsOf 16 Tryd.f3)[29]'h1).dst = some 110 := by kernel_rfl
  refine OI_value2 h1 (wanted_of o2 (yield_of (d := 104) (by kernel_rfl) (ht 23 (by simp [dep16])))) (about_none (by rw [o1]; intro c h; cases h)) (by rw [o1]; intro c h; cases h) _ W (run_cellP 4 _ ⟨bo, 2, none⟩ _ _ o1 (eval_at (ht 28 (by simp [dep16]))) Tryd.underlying4 rfl W q) ⟨by rw [o3]; rfl, rfl⟩
theorem fix16_31 (ht : ∀ j ∈ dep16 31, a.tmps[81 + j]? = some (val16 P R bo tw z at_ E sb lst j)) : wpOpIn F n Tryd.prog (opsOf 16 Tryd.f3) Q 31 (fun a' W' => a' = a.put (some 112) (val16 P R bo tw z at_ E sb lst 31) ∧ W' = W) a W := by
  have h1 : 31 < (opsOf 16 Tryd.f3).size := of_decide_eq_true (by kernel_rfl)
  have o1 : ((opsOf 16 Tryd.f3)[31]'h1).op = .binOp .neq 25 (.tmp 111) (.const (.int .i64 2)) 25 := by kernel_rfl
  have o2 : ((opsOf 16 Tryd.f3)[31]'h1).guard = some (23, false) := by kernel_rfl
  have o3 : ((opsOf 16 Tryd.f3)[31]'h1).dst = some 112 := by kernel_rfl
  refine OI_value2 h1 (wanted_of o2 (yield_of (d := 104) (by kernel_rfl) (ht 23 (by simp [dep16])))) (about_none (by rw [o1]; intro c h; cases h)) (by rw [o1]; intro c h; cases h) _ W (run_neqX _ _ _ _ 2 o1 (eval_at (ht 30 (by simp [dep16]))) rfl W) ⟨by rw [o3]; rfl, rfl⟩
theorem fix16_32 (ht : ∀ j ∈ dep16 32, a.tmps[81 + j]? = some (val16 P R bo tw z at_ E sb lst j)) : wpOpIn F n Tryd.prog (opsOf 16 Tryd.f3) Q 32 (fun a' W' => a' = a.put (some 113) (val16 P R bo tw z at_ E sb lst 32) ∧ W' = W) a W := by
  have h1 : 32 < (opsOf 16 Tryd.f3).size := of_decide_eq_true (by kernel_rfl)
  have o1 : ((opsOf 16 Tryd.f3)[32]'h1).op = .pick (.tmp 104) (.const (.bool true)) (.tmp 112) := by kernel_rfl
  have o2 : ((opsOf 16 Tryd.f3)[32]'h1).guard = none := by kernel_rfl
  have o3 : ((opsOf 16 Tryd.f3)[32]'h1).dst = some 113 := by kernel_rfl
  refine OI_value2 h1 (wanted_no o2) (about_none (by rw [o1]; intro c h; cases h)) (by rw [o1]; intro c h; cases h) _ W (run_pickX _ _ _ o1 (eval_at (ht 23 (by simp [dep16]))) (eval_at (ht 31 (by simp [dep16]))) W) ⟨by rw [o3]; rfl, rfl⟩
theorem fix16_33 (ht : ∀ j ∈ dep16 33, a.tmps[81 + j]? = some (val16 P R bo tw z at_ E sb lst j)) : wpOpIn F n Tryd.prog (opsOf 16 Tryd.f3) Q 33 (fun a' W' => a' = a.put (some 114) (val16 P R bo tw z at_ E sb lst 33) ∧ W' = W) a W := by
  have h1 : 33 < (opsOf 16 Tryd.f3).size := of_decide_eq_true (by kernel_rfl)
  have o1 : ((opsOf 16 Tryd.f3)[33]'h1).op = .move (.tmp 113) := by kernel_rfl
  have o2 : ((opsOf 16 Tryd.f3)[33]'h1).guard = none := by kernel_rfl
  have o3 : ((opsOf 16 Tryd.f3)[33]'h1).dst = some 114 := by kernel_rfl
  refine OI_value2 h1 (wanted_no o2) (about_none (by rw [o1]; intro c h; cases h)) (by rw [o1]; intro c h; cases h) _ W (run_moveX _ _ o1 (eval_at (ht 32 (by simp [dep16]))) W) ⟨by rw [o3]; rfl, rfl⟩
theorem fix16_34 (t10 : a.tmps[10]? = some (.pointer none)) (ht : ∀ j ∈ dep16 34, a.tmps[81 + j]? = some (val16 P R bo tw z at_ E sb lst j)) : wpOpIn F n Tryd.prog (opsOf 16 Tryd.f3) Q 34 (fun a' W' => a' = a.put (some 115) (val16 P R bo tw z at_ E sb lst 34) ∧ W' = W) a W := by
  have h1 : 34 < (opsOf 16 Tryd.f3).size := of_decide_eq_true (by kernel_rfl)
  have o1 : ((opsOf 16 Tryd.f3)[34]'h1).op = .move (.tmp 10) := by kernel_rfl
  have o2 : ((opsOf 16 Tryd.f3)[34]'h1).guard = some (33, false) := by kernel_rfl
  have o3 : ((opsOf 16 Tryd.f3)[34]'h1).dst = some 115 := by kernel_rfl
  refine OI_value2 h1 (wanted_of o2 (yield_of (d := 114) (by kernel_rfl) (ht 33 (by simp [dep16])))) (about_none (by rw [o1]; intro c h; cases h)) (by rw [o1]; intro c h; cases h) _ W (run_moveX _ _ o1 (eval_at t10) W) ⟨by rw [o3]; rfl, rfl⟩
theorem fix16_35 (t13 : a.tmps[13]? = some (.pointer (some ⟨bo, 0, none⟩))) (ht : ∀ j ∈ dep16 35, a.tmps[81 + j]? = some (val16 P R bo tw z at_ E sb lst j)) : wpOpIn F n Tryd.prog (opsOf 16 Tryd.f3) Q 35 (fun a' W' => a' = a.put (some 116) (val16 P R bo tw z at_ E sb lst 35) ∧ W' = W) a W := by
  have h1 : 35 < (opsOf 16 Tryd.f3).size := of_decide_eq_true (by kernel_rfl)
  have o1 : ((opsOf 16 Tryd.f3)[35]'h1).op = .fieldAddr 51 (.tmp 13) 0 := by kernel_rfl
  have o2 : ((opsOf 16 Tryd.f3)[35]'h1).guard = some (33, false) := by kernel_rfl
  have o3 : ((opsOf 16 Tryd.f3)[35]'h1).dst = some 116 := by kernel_rfl
  refine OI_value2 h1 (wanted_of o2 (yield_of (d := 114) (by kernel_rfl) (ht 33 (by simp [dep16])))) (about_none (by rw [o1]; intro c h; cases h)) (by rw [o1]; intro c h; cases h) _ W (run_faX bo 0 (by decide) _ o1 (eval_at t13) W) ⟨by rw [o3]; rfl, rfl⟩
theorem fix16_36 (ht : ∀ j ∈ dep16 36, a.tmps[81 + j]? = some (val16 P R bo tw z at_ E sb lst j)) (q : W.cell? ⟨bo, 0, none⟩ = some (.int .u64 (at_ : Int))) : wpOpIn F n Tryd.prog (opsOf 16 Tryd.f3) Q 36 (fun a' W' => a' = a.put (some 117) (val16 P R bo tw z at_ E sb lst 36) ∧ W' = W) a W := by
  have h1 : 36 < (opsOf 16 Tryd.f3).size := of_decide_eq_true (by kernel_rfl)
  have o1 : ((opsOf 16 Tryd.f3)[36]'h1).op = .load 31 (.tmp 116) := by kernel_rfl
  have o2 : ((opsOf 16 Tryd.f3)[36]'h1).guard = some (33, false) := by kernel_rfl
  have o3 : ((opsOf 16 Tryd.f3)[36]'h1).dst = some 117 := by kernel_rfl
  refine OI_value2 h1 (wanted_of o2 (yield_of (d := 114) (by kernel_rfl) (ht 33 (by simp [dep16])))) (about_none (by rw [o1]; intro c h; cases h)) (by rw [o1]; intro c h; cases h) _ W (run_cellP 31 _ ⟨bo, 0, none⟩ _ _ o1 (eval_at (ht 35 (by simp [dep16]))) Tryd.underlying31 rfl W q) ⟨by rw [o3]; rfl, rfl⟩
theorem fix16_37 (t14 : a.tmps[14]? = some (.slice (some ⟨tw, 0, none⟩) sb.len (sb.len + 1))) (ht : ∀ j ∈ dep16 37, a.tmps[81 + j]? = some (val16 P R bo tw z at_ E sb lst j)) : wpOpIn F n Tryd.prog (opsOf 16 Tryd.f3) Q 37 (fun a' W' => a' = a.put (some 118) (val16 P R bo tw z at_ E sb lst 37) ∧ W' = W) a W := by
  have h1 : 37 < (opsOf 16 Tryd.f3).size := of_decide_eq_true (by kernel_rfl)
  have o1 : ((opsOf 16 Tryd.f3)[37]'h1).op = .move (.tmp 14) := by kernel_rfl
  have o2 : ((opsOf 16 Tryd.f3)[37]'h1).guard = some (33, false) := by kernel_rfl
  have o3 : ((opsOf 16 Tryd.f3)[37]'h1).dst = some 118 := by kernel_rfl
  refine OI_value2 h1 (wanted_of o2 (yield_of (d := 114) (by kernel_rfl) (ht 33 (by simp [dep16])))) (about_none (by rw [o1]; intro c h; cases h)) (by rw [o1]; intro c h; cases h) _ W (run_moveX _ _ o1 (eval_at t14) W) ⟨by rw [o3]; rfl, rfl⟩
theorem fix16_38 (t13 : a.tmps[13]? = some (.pointer (some ⟨bo, 0, none⟩))) (ht : ∀ j ∈ dep16 38, a.tmps[81 + j]? = some (val16 P R bo tw z at_ E sb lst j)) : wpOpIn F n Tryd.prog (opsOf 16 Tryd.f3) Q 38 (fun a' W' => a' = a.put (some 119) (val16 P R bo tw z at_ E sb lst 38) ∧ W' = W) a W := by
  have h1 : 38 < (opsOf 16 Tryd.f3).size := of_decide_eq_true (by kernel_rfl)
  have o1 : ((opsOf 16 Tryd.f3)[38]'h1).op = .fieldAddr 51 (.tmp 13) 2 := by kernel_rfl
  have o2 : ((opsOf 16 Tryd.f3)[38]'h1).guard = some (33, false) := by kernel_rfl
  have o3 : ((opsOf 16 Tryd.f3)[38]'h1).dst = some 119 := by kernel_rfl
  refine OI_value2 h1 (wanted_of o2 (yield_of (d := 114) (by kernel_rfl) (ht 33 (by simp [dep16])))) (about_none (by rw [o1]; intro c h; cases h)) (by rw [o1]; intro c h; cases h) _ W (run_faX bo 2 (by decide) _ o1 (eval_at t13) W) ⟨by rw [o3]; rfl, rfl⟩
theorem fix16_39 (ht : ∀ j ∈ dep16 39, a.tmps[81 + j]? = some (val16 P R bo tw z at_ E sb lst j)) (q : W.cell? ⟨bo, 2, none⟩ = some (.bool lst)) : wpOpIn F n Tryd.prog (opsOf 16 Tryd.f3) Q 39 (fun a' W' => a' = a.put (some 120) (val16 P R bo tw z at_ E sb lst 39) ∧ W' = W) a W := by
  have h1 : 39 < (opsOf 16 Tryd.f3).size := of_decide_eq_true (by kernel_rfl)
  have o1 : ((opsOf 16 Tryd.f3)[39]'h1).op = .load 4 (.tmp 119) := by kernel_rfl
  have o2 : ((opsOf 16 Tryd.f3)[39]'h1).guard = some (33, false) := by kernel_rfl
  have o3 : ((opsOf 16 Tryd.f3)[39]'h1).dst = some 120 := by kernel_rfl
  refine OI_value2 h1 (wanted_of o2 (yield_of (d := 114) (by kernel_rfl) (ht 33 (by simp [dep16])))) (about_none (by rw [o1]; intro c h; cases h)) (by rw [o1]; intro c h; cases h) _ W (run_cellP 4 _ ⟨bo, 2, none⟩ _ _ o1 (eval_at (ht 38 (by simp [dep16]))) Tryd.underlying4 rfl W q) ⟨by rw [o3]; rfl, rfl⟩
theorem fix16_41 (ht : ∀ j ∈ dep16 41, a.tmps[81 + j]? = some (val16 P R bo tw z at_ E sb lst j)) : wpOpIn F n Tryd.prog (opsOf 16 Tryd.f3) Q 41 (fun a' W' => a' = a.put (some 122) (val16 P R bo tw z at_ E sb lst 41) ∧ W' = W) a W := by
  have h1 : 41 < (opsOf 16 Tryd.f3).size := of_decide_eq_true (by kernel_rfl)
  have o1 : ((opsOf 16 Tryd.f3)[41]'h1).op = .binOp .neq 25 (.tmp 121) (.const (.int .i64 2)) 25 := by kernel_rfl
  have o2 : ((opsOf 16 Tryd.f3)[41]'h1).guard = some (33, false) := by kernel_rfl
  have o3 : ((opsOf 16 Tryd.f3)[41]'h1).dst = some 122 := by kernel_rfl
  refine OI_value2 h1 (wanted_of o2 (yield_of (d := 114) (by kernel_rfl) (ht 33 (by simp [dep16])))) (about_none (by rw [o1]; intro c h; cases h)) (by rw [o1]; intro c h; cases h) _ W (run_neqX _ _ _ _ 2 o1 (eval_at (ht 40 (by simp [dep16]))) rfl W) ⟨by rw [o3]; rfl, rfl⟩
theorem fix16_42 (ht : ∀ j ∈ dep16 42, a.tmps[81 + j]? = some (val16 P R bo tw z at_ E sb lst j)) : wpOpIn F n Tryd.prog (opsOf 16 Tryd.f3) Q 42 (fun a' W' => a' = a.put (some 123) (val16 P R bo tw z at_ E sb lst 42) ∧ W' = W) a W := by
  have h1 : 42 < (opsOf 16 Tryd.f3).size := of_decide_eq_true (by kernel_rfl)
  have o1 : ((opsOf 16 Tryd.f3)[42]'h1).op = .pick (.tmp 114) (.const (.bool true)) (.tmp 122) := by kernel_rfl
  have o2 : ((opsOf 16 Tryd.f3)[42]'h1).guard = none := by kernel_rfl
  have o3 : ((opsOf 16 Tryd.f3)[42]'h1).dst = some 123 := by kernel_rfl
  refine OI_value2 h1 (wanted_no o2) (about_none (by rw [o1]; intro c h; cases h)) (by rw [o1]; intro c h; cases h) _ W (run_pickX _ _ _ o1 (eval_at (ht 33 (by simp [dep16]))) (eval_at (ht 41 (by simp [dep16]))) W) ⟨by rw [o3]; rfl, rfl⟩
theorem fix16 (t5 : a.tmps[5]? = some (.pointer P)) (t7 : a.tmps[7]? = some (.pointer R)) (t9 : a.tmps[9]? = some (.pointer (some ⟨z, 0, none⟩))) (t10 : a.tmps[10]? = some (.pointer none)) (t13 : a.tmps[13]? = some (.pointer (some ⟨bo, 0, none⟩))) (t14 : a.tmps[14]? = some (.slice (some ⟨tw, 0, none⟩) sb.len (sb.len + 1)))
    (q0 : W.cell? ⟨bo, 0, none⟩ = some (.int .u64 (at_ : Int))) (q1 : W.cell? ⟨bo, 1, none⟩ = some (.slice sb.a sb.len sb.cap)) (q2 : W.cell? ⟨bo, 2, none⟩ = some (.bool lst))
    {i d : Nat} (hdi : ds16[i]? = some d) (hc : i ∉ [6, 14, 20, 30, 40]) (ht : ∀ j ∈ dep16 i, a.tmps[81 + j]? = some (val16 P R bo tw z at_ E sb lst j)) :
    wpOpIn F n Tryd.prog (opsOf 16 Tryd.f3) Q i (fun a' W' => a' = a.put (some d) (val16 P R bo tw z at_ E sb lst i) ∧ W' = W) a W := by
  match i, hdi, hc, ht with
  | 0, hdi, _, ht => obtain rfl := Option.some.inj hdi; exact fix16_0 t5 ht
  | 1, hdi, _, ht => obtain rfl := Option.some.inj hdi; exact fix16_1 t13 ht
  | 2, hdi, _, ht => obtain rfl := Option.some.inj hdi; exact fix16_2  ht q0
  | 3, hdi, _, ht => obtain rfl := Option.some.inj hdi; exact fix16_3 t14 ht
  | 4, hdi, _, ht => obtain rfl := Option.some.inj hdi; exact fix16_4 t13 ht
  | 5, hdi, _, ht => obtain rfl := Option.some.inj hdi; exact fix16_5  ht q2
  | 6, _, hc, _ => exact absurd (by simp) hc
  | 7, hdi, _, ht => obtain rfl := Option.some.inj hdi; exact fix16_7 t7 ht
  | 8, hdi, _, ht => obtain rfl := Option.some.inj hdi; exact fix16_8 t13 ht
  | 9, hdi, _, ht => obtain rfl := Option.some.inj hdi; exact fix16_9  ht q0
  | 10, hdi, _, ht => obtain rfl := Option.some.inj hdi; exact fix16_10 t13 ht
  | 11, hdi, _, ht => obtain rfl := Option.some.inj hdi; exact fix16_11  ht q1
  | 12, hdi, _, ht => obtain rfl := Option.some.inj hdi; exact fix16_12 t13 ht
  | 13, hdi, _, ht => obtain rfl := Option.some.inj hdi; exact fix16_13  ht q2
  | 14, _, hc, _ => exact absurd (by simp) hc
  | 15, hdi, _, ht => obtain rfl := Option.some.inj hdi; exact fix16_15  ht
  | 16, hdi, _, ht => obtain rfl := Option.some.inj hdi; exact fix16_16  ht
  | 17, hdi, _, ht => obtain rfl := Option.some.inj hdi; exact fix16_17 t14 ht
  | 18, hdi, _, ht => obtain rfl := Option.some.inj hdi; exact fix16_18 t13 ht
  | 19, hdi, _, ht => obtain rfl := Option.some.inj hdi; exact fix16_19  ht q1
  | 20, _, hc, _ => exact absurd (by simp) hc
  | 21, hdi, _, ht => obtain rfl := Option.some.inj hdi; exact fix16_21  ht
  | 22, hdi, _, ht => obtain rfl := Option.some.inj hdi; exact fix16_22  ht
  | 23, hdi, _, ht => obtain rfl := Option.some.inj hdi; exact fix16_23  ht
  | 24, hdi, _, ht => obtain rfl := Option.some.inj hdi; exact fix16_24 t9 ht
  | 25, hdi, _, ht => obtain rfl := Option.some.inj hdi; exact fix16_25 t13 ht
  | 26, hdi, _, ht => obtain rfl := Option.some.inj hdi; exact fix16_26  ht q0
  | 27, hdi, _, ht => obtain rfl := Option.some.inj hdi; exact fix16_27 t14 ht
  | 28, hdi, _, ht => obtain rfl := Option.some.inj hdi; exact fix16_28 t13 ht
  | 29, hdi, _, ht => obtain rfl := Option.some.inj hdi; exact fix16_29  ht q2
  | 30, _, hc, _ => exact absurd (by simp) hc
  | 31, hdi, _, ht => obtain rfl := Option.some.inj hdi; exact fix16_31  ht
  | 32, hdi, _, ht => obtain rfl := Option.some.inj hdi; exact fix16_32  ht
  | 33, hdi, _, ht => obtain rfl := Option.some.inj hdi; exact fix16_33  ht
  | 34, hdi, _, ht => obtain rfl := Option.some.inj hdi; exact fix16_34 t10 ht
  | 35, hdi, _, ht => obtain rfl := Option.some.inj hdi; exact fix16_35 t13 ht
  | 36, hdi, _, ht => obtain rfl := Option.some.inj hdi; exact fix16_36  ht q0
  | 37, hdi, _, ht => obtain rfl := Option.some.inj hdi; exact fix16_37 t14 ht
  | 38, hdi, _, ht => obtain rfl := Option.some.inj hdi; exact fix16_38 t13 ht
  | 39, hdi, _, ht => obtain rfl := Option.some.inj hdi; exact fix16_39  ht q2
  | 40, _, hc, _ => exact absurd (by simp) hc
  | 41, hdi, _, ht => obtain rfl := Option.some.inj hdi; exact fix16_41  ht
  | 42, hdi, _, ht => obtain rfl := Option.some.inj hdi; exact fix16_42  ht
  | i + 43, hdi, _, _ => simp [ds16] at hdi
theorem ds16_at (j : Nat) (h : j < 43) : ds16[j]? = some (81 + j) := by
  rw [show ds16 = List.range' 81 43 from rfl, List.getElem?_range' h]
  simp
theorem dep16_lt : ∀ i, i < 43 → ∀ j ∈ dep16 i, j < 43 := by decide
theorem fix16_line {a0 : Act} {x : Nat → Value} (hs : 124 ≤ a0.tmps.size) (t5 : a0.tmps[5]? = some (.pointer P)) (t7 : a0.tmps[7]? = some (.pointer R)) (t9 : a0.tmps[9]? = some (.pointer (some ⟨z, 0, none⟩))) (t10 : a0.tmps[10]? = some (.pointer none)) (t13 : a0.tmps[13]? = some (.pointer (some ⟨bo, 0, none⟩))) (t14 : a0.tmps[14]? = some (.slice (some ⟨tw, 0, none⟩) sb.len (sb.len + 1)))
    (q0 : W.cell? ⟨bo, 0, none⟩ = some (.int .u64 (at_ : Int))) (q1 : W.cell? ⟨bo, 1, none⟩ = some (.slice sb.a sb.len sb.cap)) (q2 : W.cell? ⟨bo, 2, none⟩ = some (.bool lst))
    {i d : Nat} (hdi : ds16[i]? = some d) (hc : i ∉ [6, 14, 20, 30, 40]) (hdep : ∀ j ∈ dep16 i, x j = val16 P R bo tw z at_ E sb lst j) :
    wpOpIn F n Tryd.prog (opsOf 16 Tryd.f3) Q i (fun a' W' => a' = (putsV a0 ds16 0 x).put (some d) (val16 P R bo tw z at_ E sb lst i) ∧ W' = W) (putsV a0 ds16 0 x) W := by
  have hi : i < 43 := by
    rcases Nat.lt_or_ge i 43 with h | h
    · exact h
    · rw [List.getElem?_eq_none (by exact h)] at hdi
      cases hdi
  refine fix16 ((puts_out _ _ _ _ _ (by decide)).trans t5) ((puts_out _ _ _ _ _ (by decide)).trans t7) ((puts_out _ _ _ _ _ (by decide)).trans t9) ((puts_out _ _ _ _ _ (by decide)).trans t10) ((puts_out _ _ _ _ _ (by decide)).trans t13) ((puts_out _ _ _ _ _ (by decide)).trans t14) q0 q1 q2 hdi hc (fun j hj => ?_)
  have hj := dep16_lt i hi j hj
  rw [puts_at ds16 a0 0 x j (81 + j) (by decide) (ds16_at j hj) (by omega), Nat.zero_add, hdep j (by assumption)]
end
end Go.Proofs.YtekgdljbninjiaaDoor
