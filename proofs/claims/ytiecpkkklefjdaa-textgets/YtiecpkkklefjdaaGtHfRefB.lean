/-
  What the document's bit answers.
-/
import Derived.Test.YtiecpkkklefjdaaGtHfRefF
namespace Go.Proofs.Ytiecpkkklefjdaa
open Go Go.RowKit

section
variable {P : Program} {a : Act}
theorem run_shr8 {o : Oper} (t t' : TypeId) (x y : Operand) (v r s : Nat) (hr : r ≤ 7) (hs : s = v / 2 ^ r) (ho : o.op = .binOp .shr t x y t') (hx : a.eval x = .int .u8 (v : Int)) (hy : a.eval y = .int .i64 (r : Int)) (W : World) :
    (execOp a.eval o).run P W = .ok (.value (.int .u8 (s : Int))) W := by
  unfold execOp
  simp only [ho, hx, hy]
  go_simp
theorem run_quo8c {o : Oper} (t t' : TypeId) (x y : Operand) (m c : Nat) (hc : c = m / 8) (ho : o.op = .binOp .quo t x y t') (hx : a.eval x = .int .i64 (m : Int)) (hy : a.eval y = .int .i64 8) (hm : m < 9223372036854775808) (W : World) :
    (execOp a.eval o).run P W = .ok (.value (.int .i64 (c : Int))) W := by rw [hc]; exact run_quo8 t t' x y m ho hx hy hm W
theorem run_rem8c {o : Oper} (t t' : TypeId) (x y : Operand) (m c : Nat) (hc : c = m % 8) (ho : o.op = .binOp .rem t x y t') (hx : a.eval x = .int .i64 (m : Int)) (hy : a.eval y = .int .i64 8) (W : World) :
    (execOp a.eval o).run P W = .ok (.value (.int .i64 (c : Int))) W := by rw [hc]; exact run_rem8 t t' x y m ho hx hy W
theorem run_andHc {o : Oper} (t t' : TypeId) (x y : Operand) (v c : Nat) (hc : v % 2 = c) (hv : v < 4294967296) (ho : o.op = .binOp .and t x y t') (hx : a.eval x = .int .u32 (v : Int)) (hy : a.eval y = .int .u32 1) (W : World) :
    (execOp a.eval o).run P W = .ok (.value (.int .u32 (c : Int))) W := by rw [← hc]; exact run_andH t t' x y v hv ho hx hy W
end
theorem bit_of {b : List By} {i : Nat} {x : Bool} (h : (Hf.bitsB b)[i]? = some x) (hi : i < 8 * b.length) : ((gb b (i / 8)).toNat / 2 ^ (7 - i % 8)) % 2 = x.toNat := by
  rw [Hf.bitsB_get b i hi, Hf.bitsN_get _ _ _ (by omega)] at h
  injection h with h
  subst h
  rw [show 8 - 1 - i % 8 = 7 - i % 8 by omega]
  generalize (gb b (i / 8)).toNat / 2 ^ (7 - i % 8) = z
  by_cases c : z % 2 = 1
  · rw [decide_eq_true c, Bool.toNat_true]; exact c
  · rw [decide_eq_false c, Bool.toNat_false]; omega
set_option maxRecDepth 20000 in
set_option maxHeartbeats 1000000 in
theorem bit_any (q : SL) (w : World) (hq : q.Ok w) (hl : q.len ≤ 1048576) (i : Nat) (hi : i < 8 * q.len) (x : Bool) (hx : (Hf.bitsB q.b)[i]? = some x) :
    Calls Try.prog 41 #[.slice q.a q.len q.cap, .int .i64 (i : Int)] w fun e w' => e = .returned (.int .u32 (x.toNat : Int)) ∧ w' = w := by
  have hib : i / 8 < q.len := by omega
  have hc := hq.cell (i / 8) hib
  have ha := hq.at_ (by omega)
  have hbit := bit_of hx (by rw [hq.hb]; exact hi)
  have hlt : (gb q.b (i / 8)).toNat < 256 := (gb q.b (i / 8)).isLt
  have hv : v8 (gb q.b (i / 8)) = (((gb q.b (i / 8)).toNat : Nat) : Int) := rfl
  rw [hv] at hc
  have hr : 7 - i % 8 ≤ 7 := by omega
  obtain ⟨s, hs⟩ : ∃ s, s = (gb q.b (i / 8)).toNat / 2 ^ (7 - i % 8) := ⟨_, rfl⟩
  rw [← hs] at hbit
  have hsl : s < 256 := by rw [hs]; exact Nat.lt_of_le_of_lt (Nat.div_le_self _ _) hlt
  generalize (gb q.b (i / 8)).toNat = z at *
  clear hv hx hq
  obtain ⟨qa, ql, qc, qg, qo, qb⟩ := q
  simp only at *
  subst ha
  have hsub : (7 : Int) - ((i % 8 : Nat) : Int) = ((7 - i % 8 : Nat) : Int) := by omega
  have HR := veil (show i % 8 < 8 by omega)
  obtain ⟨d, hd⟩ : ∃ d, d = 7 - i % 8 := ⟨_, rfl⟩
  rw [← hd] at hsub hs hr
  obtain ⟨r, hr'⟩ : ∃ r, r = i % 8 := ⟨_, rfl⟩
  rw [← hr'] at hsub hd
  obtain ⟨c, hc'⟩ : ∃ c, c = i / 8 := ⟨_, rfl⟩
  rw [← hc'] at hc hib
  have hr8 : r < 8 := by omega
  have HC := veil hc'
  have HRR := veil hr'
  have HS := veil hs
  have HBIT := veil hbit
  clear hs hbit hd hr' hc' HR
  generalize x.toNat = xn at *
  go_enter Try.func41, Try.ntmps41
  go_wp2_with first
    | (with_reducible (show wpList _ _ _ (⟨_, Op.binOp BinOp.quo _ _ _ _, _, _, _, _⟩ :: _) _ _)
       refine val_run rfl (.int .i64 (c : Int)) (run_quo8c _ _ _ _ i c HC.out rfl (by kernel_rfl) (by kernel_rfl) (by omega) _) ?_)
    | (with_reducible (show wpList _ _ _ (⟨_, Op.binOp BinOp.rem _ _ _ _, _, _, _, _⟩ :: _) _ _)
       refine val_run rfl (.int .i64 (r : Int)) (run_rem8c _ _ _ _ i r HRR.out rfl (by kernel_rfl) (by kernel_rfl) _) ?_)
    | (with_reducible (show wpList _ _ _ (⟨_, Op.binOp BinOp.shr _ _ _ _, _, _, _, _⟩ :: _) _ _)
       refine val_run rfl (.int .u8 (s : Int)) (run_shr8 _ _ _ _ z d s hr HS.out rfl (by kernel_rfl) (by kernel_rfl) _) ?_)
    | (with_reducible (show wpList _ _ _ (⟨_, Op.binOp BinOp.and _ _ _ _, _, _, _, _⟩ :: _) _ _)
       refine val_run rfl (.int .u32 (xn : Int)) (run_andHc _ _ _ _ s xn HBIT.out (by omega) rfl (by kernel_rfl) (by kernel_rfl) _) ?_)
  go_ret
  exact ⟨rfl, rfl⟩
end Go.Proofs.Ytiecpkkklefjdaa
