/-
  FlowSpends: the walk. Written by mkfls.py.
-/
import Derived.Test.YtepkajaallcnmaaFlTool
import Derived.Test.YtepkajaallcnmaaFlMem
import Derived.Test.YtepkajaallcnmaaFlPairs
import Derived.Deep.RegionHeld3
namespace Go.Proofs.Ytepkajaallcnmaa
open Go Go.RowKit

section
variable {P : Program} {a : Act} {o : Oper}
theorem run_cell14 (ty : TypeId) (x : Operand) (p : Addr) (v : Value) (d : TypeDesc) (ho : o.op = .load ty x) (hx : a.eval x = .pointer (some p)) (hu : P.underlying ty = some d) (hd : (match d with | .struct _ | .array _ _ => true | _ => false) = false)
    (W : World) (hv : W.cell? p = some v) : (execOp a.eval o).run P W = .ok (.value v) W := by
  have hag : (isAgg ty).run P W = .ok false W := by
    unfold isAgg
    rw [Sem.run_bind, run_underlying hu W]
    cases d <;> simp_all
  unfold execOp
  simp [ho, hx, Instr.loadAt, Instr.sureAddr, loadVar, hag, hv]
theorem size_run {e : TypeId} {k : Nat} (hi : (P.info? e).map (·.size) = some k) (W : World) : (sizeOf e).run P W = .ok k W := by
  cases hq : P.info? e with
  | none => simp [hq] at hi
  | some i =>
    have : i.size = k := by simpa [hq] using hi
    simp [sizeOf, typeInfo, hq, this]
theorem run_at2 (t e : TypeId) (x ix : Operand) (g off len cap j : Nat) (ho : o.op = .indexAddr t x ix) (hx : a.eval x = .slice (some ⟨g, off, none⟩) len cap) (hix : a.eval ix = .int .i64 (j : Int))
    (hu : P.underlying t = some (.slice e)) (hi : (P.info? e).map (·.size) = some 2) (hj : j < len) (W : World) : (execOp a.eval o).run P W = .ok (.value (.pointer (some ⟨g, off + j * 2, none⟩))) W := by
  unfold execOp
  simp [ho, hx, hix, Instr.indexAt, asIntOf, run_underlying hu, hj, size_run hi W, Addr.add]
theorem run_atA (t e : TypeId) (n : Nat) (x ix : Operand) (g off j : Nat) (ho : o.op = .indexAddr t x ix) (hx : a.eval x = .pointer (some ⟨g, off, none⟩)) (hix : a.eval ix = .int .i64 (j : Int))
    (hu : P.underlying t = some (.array n e)) (hi : (P.info? e).map (·.size) = some 1) (hj : j < n) (W : World) : (execOp a.eval o).run P W = .ok (.value (.pointer (some ⟨g, off + j, none⟩))) W := by
  unfold execOp
  simp [ho, hx, hix, Instr.indexAt, asIntOf, Instr.sureAddr, run_underlying hu, hj, size_run hi W, Addr.add]
theorem run_conv16 (t t' : TypeId) (x : Operand) (r : Nat) (hr : r < 65536) (ho : o.op = .convert t t' x) (hx : a.eval x = .int .u16 (r : Int)) (ht : P.underlying t = some (.int .u16)) (ht' : P.underlying t' = some (.int .u64)) (W : World) :
    (execOp a.eval o).run P W = .ok (.value (.int .u64 (r : Int))) W := by
  unfold execOp
  simp only [ho, hx]
  go_simp
  rw [IntKind.wrap_u64]
  omega
end
theorem put_none (a : Act) (v : Value) : a.put none v = a := rfl
theorem spends_ok (L U N : Nat) (w : World) (hU : U ≤ L) (hL : L ≤ 4294967295) (hN : N < 65536) (h : U + N ≤ L) : Calls Try.prog 8 #[.agg #[.int .u64 (L : Int), .int .u64 (U : Int)], .int .u64 (N : Int)] w fun e w' => e = .returned (.tuple #[.agg #[.int .u64 (L : Int), .int .u64 ((U + N : Nat) : Int)], .int .i64 0]) ∧ Below w.heap.size w w' := by
  have q := spend_any L U N w (by omega)
  have hE : spendE L U N = 0 := by unfold spendE; rw [if_pos ⟨mayC_yes (by omega) hU, by omega⟩, if_pos (by omega)]
  rw [show spendO L U N = (L, U + N) from if_pos hE, hE] at q
  exact q
theorem spends_no (L U N : Nat) (w : World) (hU : U ≤ L) (hL : L ≤ 4294967295) (hN : N < 65536) (h : ¬ U + N ≤ L) : Calls Try.prog 8 #[.agg #[.int .u64 (L : Int), .int .u64 (U : Int)], .int .u64 (N : Int)] w fun e w' => e = .returned (.tuple #[.agg #[.int .u64 0, .int .u64 0], .int .i64 7]) ∧ Below w.heap.size w w' := by
  have q := spend_any L U N w (by omega)
  have hE : spendE L U N = 7 := by unfold spendE; rw [if_pos ⟨mayC_yes (by omega) hU, by omega⟩, if_neg (by omega)]
  rw [show spendO L U N = (0, 0) from if_neg (by rw [hE]; decide), hE] at q
  exact q
theorem spends_raise (L U M : Nat) (w : World) (hU : U ≤ L) (hL : L ≤ 4294967295) (hM : M < 65536) : Calls Try.prog 9 #[.agg #[.int .u64 (L : Int), .int .u64 (U : Int)], .int .u64 (M : Int)] w fun e w' => e = .returned (.tuple #[.agg #[.int .u64 ((Nat.max L M : Nat) : Int), .int .u64 (U : Int)], .int .i64 0]) ∧ Below w.heap.size w w' := by
  have q := raise_any L U M w (by omega)
  have hE : raiseE L U M = 0 := by unfold raiseE; rw [if_pos ⟨mayC_yes (by omega) hU, by omega⟩]
  rw [show raiseO L U M = (Nat.max L M, U) from if_pos hE, hE] at q
  exact q
theorem spends_left (L U : Nat) (w : World) (hU : U ≤ L) (hL : L ≤ 4294967295) : Calls Try.prog 17 #[.agg #[.int .u64 (L : Int), .int .u64 (U : Int)]] w fun e w' => e = .returned (.int .u64 ((L - U : Nat) : Int)) ∧ Below w.heap.size w w' := by
  have q := left_any L U w
  rw [show leftC L U = L - U from if_pos (mayC_yes (by omega) hU)] at q
  exact q

def depSp : Nat → List Nat
  | 3 => [1, 2]
  | 4 => [3]
  | 5 => [4]
  | 6 => [5]
  | 7 => [0, 6]
  | 8 => [7]
  | 9 => [8]
  | 10 => [8]
  | 11 => [0, 1, 2, 3, 4, 5, 6, 7, 8, 9]
  | 12 => [10]
  | _ => []
theorem depSp_all (j : Nat) (hj : decide (j < 10) = true) : j ∈ depSp 11 := by
  have h : j = 0 ∨ j = 1 ∨ j = 2 ∨ j = 3 ∨ j = 4 ∨ j = 5 ∨ j = 6 ∨ j = 7 ∨ j = 8 ∨ j = 9 := by have := of_decide_eq_true hj; omega
  rcases h with rfl | rfl | rfl | rfl | rfl | rfl | rfl | rfl | rfl | rfl <;> decide
def valSp (L V M R g off len cap k : Nat) : Nat → Value → Prop
  | 0, v => v = .agg #[.int .u64 (L : Int), .int .u64 (V : Int)]
  | 1, v => v = .slice (some ⟨g, off, none⟩) len cap
  | 2, v => v = .int .i64 (k : Int)
  | 3, v => v = .pointer (some ⟨g, off + k * 2, none⟩)
  | 4, v => v = .pointer (some ⟨g, off + k * 2 + 1, none⟩)
  | 5, v => v = .int .u16 (M : Int)
  | 6, v => v = .int .u64 (M : Int)
  | 7, v => v = .tuple #[.agg #[.int .u64 (R : Int), .int .u64 (V : Int)], .int .i64 0]
  | 8, v => v = .tuple #[.agg #[.int .u64 (R : Int), .int .u64 (V : Int)], .int .i64 0]
  | 9, v => v = .agg #[.int .u64 (R : Int), .int .u64 (V : Int)]
  | 10, v => v = .int .i64 0
  | 12, v => v = .int .i64 0
  | _, _ => True


set_option maxRecDepth 20000 in
set_option maxHeartbeats 4000000 in
theorem spends_walk (n : Nat) (q : PL) (w : World) (hn : n < 4294967296) (hq : q.Ok w) :
    Calls Try.prog 6 #[.int .u32 (n : Int), .slice q.a q.len q.cap] w fun e w' => e = .returned (.bool true) ∧ Below w.heap.size w w' := by
  obtain ⟨a, len, cap, g, off, l⟩ := q
  simp only
  by_cases h1000 : 1000 < len
  · clear hq
    go_enter Try.func6, Try.ntmps6
    go_wp2_with fail
    refine (lives_any w).mono ?_
    rintro e1 w1 ⟨rfl, hb1⟩
    have B1 := veil hb1
    clear hb1
    go_wp2_with fail
    go_ret
    exact ⟨rfl, B1.out⟩
  · have HQ := veil hq
    have hl1000 : len ≤ 1000 := by omega
    have HN := veil hn
    clear hq h1000
    have b0 : Below w.heap.size w (w.alloc (.cells #[.int .u64 (n : Int), .int .u64 0] 24)) := (Below.refl _ w).alloc (Nat.le_refl _) _
    have r0 : Row (w.alloc (.cells #[.int .u64 (n : Int), .int .u64 0] 24)) w.heap.size 24 #[.int .u64 (n : Int), .int .u64 0] := Row.new _ _ _
    have B0 := veil b0
    have R0 := veil r0
    clear b0 r0
    go_enter Try.func6, Try.ntmps6
    go_wp2_with fail
    go_loopw [6, 7] (fun uv iv wr => ∃ (k L U : Nat), k ≤ len ∧ iv = .int .i64 (k : Int) ∧ uv = .int .u64 (U : Int) ∧ U ≤ L ∧ L ≤ 4294967295 ∧ Row wr w.heap.size 24 #[.int .u64 (L : Int), .int .u64 (U : Int)] ∧ Below w.heap.size w wr)
      (fun _ iv _ => len - (intOf iv).toNat)
    case atStart => exact ⟨0, n, 0, Nat.zero_le _, rfl, rfl, Nat.zero_le _, by have := HN.out; omega, R0.out, B0.out⟩
    case round =>
      obtain ⟨k, L, U, hk, rfl, rfl, hUL, hLB, hrow, hbel⟩ := hrel
      by_cases hlt : k < len
      · have e1 : a = some ⟨g, off, none⟩ := HQ.out.at_ (show 0 < len by omega)
        subst e1
        obtain ⟨c1, _⟩ := (HQ.out.below hbel).cell k hlt
        have sm := HQ.out.small k
        simp only at c1 sm
        obtain ⟨N, hNN⟩ : ∃ N, (gr l k).1 = N := ⟨_, rfl⟩
        obtain ⟨M, hMM⟩ : ∃ M, (gr l k).2 = M := ⟨_, rfl⟩
        rw [hNN] at c1 sm
        rw [hMM] at sm
        obtain ⟨hN16, hM16⟩ := sm
        have HMM := veil hMM
        have HLT := veil hlt
        have HM := veil hM16
        clear hNN hMM B0 R0
        have HROW := veil hrow
        have HBEL := veil hbel
        have x0 : wr.cell? ⟨w.heap.size, 0, none⟩ = some (.int .u64 (L : Int)) := hrow.cell 0
        have x1 : wr.cell? ⟨w.heap.size, 1, none⟩ = some (.int .u64 (U : Int)) := hrow.cell 1
        clear hrow hbel
        by_cases hsp : U + N ≤ L
        · have SC := veil (fun w => spends_ok L U N w hUL hLB hN16 hsp)
          obtain ⟨V, hV⟩ : ∃ V, U + N = V := ⟨_, rfl⟩
          rw [hV] at SC hsp
          have hVI : (U : Int) + (N : Int) = (V : Int) := by omega
          obtain ⟨R, hR⟩ : ∃ R, Nat.max L M = R := ⟨_, rfl⟩
          have hRge : L ≤ R := by rw [← hR]; exact Nat.le_max_left _ _
          have hRM : M ≤ R := by rw [← hR]; exact Nat.le_max_right _ _
          have HRB : Hid (R ≤ 4294967295) := veil (by have := HM.out; rw [← hR]; exact Nat.max_le.2 ⟨hLB, by omega⟩)
          have HVR : Hid (V ≤ R) := veil (by omega)
          have RC := veil (fun w => spends_raise L V M w hsp hLB HM.out)
          rw [hR] at RC
          have LC := veil (fun w => spends_left R V w HVR.out HRB.out)
          obtain ⟨D, hD⟩ : ∃ D, R - V = D := ⟨_, rfl⟩
          rw [hD] at LC
          have hDI : (D : Int) + (V : Int) = (R : Int) := by have := HVR.out; omega
          have hMw : IntKind.u64.wrap (M : Int) = (M : Int) := by rw [IntKind.wrap_u64]; omega
          have hRw : IntKind.u64.wrap (R : Int) = (R : Int) := by have := HRB.out; rw [IntKind.wrap_u64]; omega
          have hd1 : decide ((R : Int) < (M : Int)) = false := decide_eq_false (by omega)
          have hd2 : decide (R < M) = false := decide_eq_false (by omega)
          clear hV hR hD hRM
          go_wp2_with fail
          refine (SC.out wr).mono ?_
          rintro e2 w2 ⟨rfl, hb2⟩
          have r2 := (HROW.out.below hb2 HROW.out.lt).alloc (.cells #[.int .u64 (L : Int), .int .u64 (V : Int)] 24)
          have q2 := Row.new w2 24 #[.int .u64 (L : Int), .int .u64 (V : Int)]
          have b2 := HBEL.out.trans (hb2.mono HBEL.out.size)
          have b3 := b2.alloc b2.size (.cells #[.int .u64 (L : Int), .int .u64 (V : Int)] 24)
          have y0 : (w2.alloc (.cells #[.int .u64 (L : Int), .int .u64 (V : Int)] 24)).cell? ⟨w.heap.size, 0, none⟩ = some (.int .u64 (L : Int)) := r2.cell 0
          have y1 : (w2.alloc (.cells #[.int .u64 (L : Int), .int .u64 (V : Int)] 24)).cell? ⟨w.heap.size, 1, none⟩ = some (.int .u64 (U : Int)) := r2.cell 1
          have f0 := r2.frozen 0
          have f1 := r2.frozen 1
          have z0 : (w2.alloc (.cells #[.int .u64 (L : Int), .int .u64 (V : Int)] 24)).cell? ⟨w2.heap.size, 0, none⟩ = some (.int .u64 (L : Int)) := q2.cell 0
          have z1 : (w2.alloc (.cells #[.int .u64 (L : Int), .int .u64 (V : Int)] 24)).cell? ⟨w2.heap.size, 1, none⟩ = some (.int .u64 (V : Int)) := q2.cell 1
          have HC := veil ((r2.set 0 (.int .u64 (L : Int))).set 1 (.int .u64 (V : Int)))
          have E3 := veil ((b3.setCell (p := ⟨w.heap.size, 0, none⟩) (Nat.le_refl _) (.int .u64 (L : Int))).setCell (p := ⟨w.heap.size, 1, none⟩) (Nat.le_refl _) (.int .u64 (V : Int)))
          clear x0 x1 hb2 r2 q2 b2 b3 HROW HBEL SC c1
          go_wp2_with fail
          generalize ((w2.alloc (.cells #[.int .u64 (L : Int), .int .u64 (V : Int)] 24)).setCell ⟨w.heap.size, 0, none⟩ (.int .u64 (L : Int))).setCell ⟨w.heap.size, 1, none⟩ (.int .u64 (V : Int)) = q3 at *
          replace HC : Hid (Row q3 w.heap.size 24 #[.int .u64 (L : Int), .int .u64 (V : Int)]) := HC
          clear y0 y1 f0 f1 z0 z1
          have HP := fun W (hW : Below q3.heap.size q3 W) => (show W.cell? ⟨g, off + k * 2 + 1, none⟩ = some (.int .u16 (M : Int)) from by have h := ((HQ.out.below (E3.out.trans (hW.mono E3.out.size))).cell k HLT.out).2; rw [HMM.out] at h; exact h)
          refine (wpIn_wide (n := 4)).1 ?_
          refine wpIn_region_any (by kernel_rfl) ?_
          refine anyIn_mem (valSp L V M R g off len cap k) (fun W => Below q3.heap.size q3 W) (fun W => Row W w.heap.size 24 #[.int .u64 (R : Int), .int .u64 (V : Int)] ∧ Below w.heap.size w W) 11 (fun j => decide (j < 10)) [52, 53, 54, 55, 56, 57, 58, 59, 51, 60, 61, 91, 10] depSp (by kernel_rfl) rfl (by decide) (by decide) rfl depSp_all ((Below.refl _ _).drew) ?step ?store ?after ?done
          case step =>
            intro x W i e hi hW hdi hdep
            match i, hi, hdi, hdep with
            | 0, _, hdi, _ =>
              obtain rfl := Option.some.inj hdi
              exact OI_value rfl rfl (about_none (by intro c h; cases h)) (by intro c h; cases h) (.agg #[.int .u64 (L : Int), .int .u64 (V : Int)]) W (run_load_st 24 _ rfl w.heap.size (by kernel_rfl) 24 #[.int .u64 (L : Int), .int .u64 (V : Int)] 2 _ Try.underlying24 (by kernel_rfl) rfl W (HC.out.below hW HC.out.lt)) ⟨_, rfl, hW, rfl⟩
            | 1, _, hdi, _ =>
              obtain rfl := Option.some.inj hdi
              exact OI_value rfl rfl (about_none (by intro c h; cases h)) (by intro c h; cases h) (.slice (some ⟨g, off, none⟩) len cap) W (by kernel_rfl) ⟨_, rfl, hW, rfl⟩
            | 2, _, hdi, _ =>
              obtain rfl := Option.some.inj hdi
              exact OI_value rfl rfl (about_none (by intro c h; cases h)) (by intro c h; cases h) (.int .i64 (k : Int)) W (by kernel_rfl) ⟨_, rfl, hW, rfl⟩
            | 3, _, hdi, hdep =>
              obtain rfl := Option.some.inj hdi
              rw [updV_self (show x 1 = _ from hdep 1 (by simp [depSp])), updV_self (show updV x 1 _ 2 = _ from hdep 2 (by simp [depSp]))]
              exact OI_value rfl rfl (about_none (by intro c h; cases h)) (by intro c h; cases h) (.pointer (some ⟨g, off + k * 2, none⟩)) W (run_at2 46 48 _ _ g off len cap k rfl (by kernel_rfl) (by kernel_rfl) Try.underlying46 (by kernel_rfl) HLT.out W) ⟨_, rfl, hW, rfl⟩
            | 4, _, hdi, hdep =>
              obtain rfl := Option.some.inj hdi
              rw [updV_self (show x 3 = _ from hdep 3 (by simp [depSp]))]
              exact OI_value rfl rfl (about_none (by intro c h; cases h)) (by intro c h; cases h) (.pointer (some ⟨g, off + k * 2 + 1, none⟩)) W (run_atA 48 47 2 _ _ g (off + k * 2) 1 rfl (by kernel_rfl) (by kernel_rfl) Try.underlying48 (by kernel_rfl) (by decide) W) ⟨_, rfl, hW, rfl⟩
            | 5, _, hdi, hdep =>
              obtain rfl := Option.some.inj hdi
              rw [updV_self (show x 4 = _ from hdep 4 (by simp [depSp]))]
              exact OI_value rfl rfl (about_none (by intro c h; cases h)) (by intro c h; cases h) (.int .u16 (M : Int)) W (run_cell14 47 _ ⟨g, off + k * 2 + 1, none⟩ _ _ rfl (by kernel_rfl) Try.underlying47 rfl W (HP W hW)) ⟨_, rfl, hW, rfl⟩
            | 6, _, hdi, hdep =>
              obtain rfl := Option.some.inj hdi
              rw [updV_self (show x 5 = _ from hdep 5 (by simp [depSp]))]
              exact OI_value rfl rfl (about_none (by intro c h; cases h)) (by intro c h; cases h) (.int .u64 (M : Int)) W (run_conv16 _ _ _ M HM.out rfl (by kernel_rfl) Try.underlying47 Try.underlying22 W) ⟨_, rfl, hW, rfl⟩
            | 7, _, hdi, hdep =>
              obtain rfl := Option.some.inj hdi
              rw [updV_self (show x 0 = _ from hdep 0 (by simp [depSp])), updV_self (show updV x 0 _ 6 = _ from hdep 6 (by simp [depSp]))]
              refine OI_call rfl rfl (by intro c h; cases h) 9 #[.agg #[.int .u64 (L : Int), .int .u64 (V : Int)], .int .u64 (M : Int)] (fun _ _ => trivial) (by kernel_rfl) (by decide) ?_
              refine (callsIn_wide.2 (RC.out W)).mono ?_
              rintro e w' ⟨rfl, hb'⟩
              exact ⟨_, rfl, _, rfl, hW.trans (hb'.mono hW.size), rfl⟩
            | 8, _, hdi, hdep =>
              obtain rfl := Option.some.inj hdi
              rw [updV_self (show x 7 = _ from hdep 7 (by simp [depSp]))]
              exact OI_value rfl rfl (about_none (by intro c h; cases h)) (by intro c h; cases h) (.tuple #[.agg #[.int .u64 (R : Int), .int .u64 (V : Int)], .int .i64 0]) W (by kernel_rfl) ⟨_, rfl, hW, rfl⟩
            | 9, _, hdi, hdep =>
              obtain rfl := Option.some.inj hdi
              rw [updV_self (show x 8 = _ from hdep 8 (by simp [depSp]))]
              exact OI_value rfl rfl (about_none (by intro c h; cases h)) (by intro c h; cases h) (.agg #[.int .u64 (R : Int), .int .u64 (V : Int)]) W (by kernel_rfl) ⟨_, rfl, hW, rfl⟩
            | _ + 10, hi, _, _ => exact absurd (of_decide_eq_true hi) (by omega)
          case store =>
            intro x W hW hx
            rw [updV_self (show x 9 = _ from hx 9 (by decide))]
            refine OI_skip rfl rfl (about_none (by intro c h; cases h)) (by intro c h; cases h) (W.setRow w.heap.size #[.int .u64 (R : Int), .int .u64 (V : Int)]) (run_store_row 24 _ _ rfl w.heap.size #[.int .u64 (R : Int), .int .u64 (V : Int)] (by kernel_rfl) (by kernel_rfl) 24 #[.int .u64 (L : Int), .int .u64 (V : Int)] (HC.out.below hW HC.out.lt) 2 (by kernel_rfl) rfl rfl (by simp [Value.oneCell'])) ⟨put_none _ _, ?_, ?_⟩
            · exact (HC.out.below hW HC.out.lt).put _
            · exact bSetRow (E3.out.trans (hW.mono E3.out.size)) (Nat.le_refl _) _
          case after =>
            intro x W i e hi hne hdi hdep
            match i, hi, hne, hdi, hdep with
            | 10, _, _, hdi, hdep =>
              obtain rfl := Option.some.inj hdi
              rw [updV_self (show x 8 = _ from hdep 8 (by simp [depSp]) (by decide))]
              exact OI_value rfl rfl (about_none (by intro c h; cases h)) (by intro c h; cases h) (.int .i64 0) W (by kernel_rfl) ⟨_, rfl, rfl, rfl⟩
            | 11, _, hne, _, _ => exact absurd rfl hne
            | 12, _, _, hdi, hdep =>
              obtain rfl := Option.some.inj hdi
              rw [updV_self (show x 10 = _ from hdep 10 (by simp [depSp]) (by decide))]
              exact OI_value rfl rfl (about_none (by intro c h; cases h)) (by intro c h; cases h) (.int .i64 0) W (by kernel_rfl) ⟨_, rfl, rfl, rfl⟩
            | _ + 13, _, _, hdi, _ => simp at hdi
            | 0, hi, _, _, _ => exact absurd hi (by decide)
            | 1, hi, _, _, _ => exact absurd hi (by decide)
            | 2, hi, _, _, _ => exact absurd hi (by decide)
            | 3, hi, _, _, _ => exact absurd hi (by decide)
            | 4, hi, _, _, _ => exact absurd hi (by decide)
            | 5, hi, _, _, _ => exact absurd hi (by decide)
            | 6, hi, _, _, _ => exact absurd hi (by decide)
            | 7, hi, _, _, _ => exact absurd hi (by decide)
            | 8, hi, _, _, _ => exact absurd hi (by decide)
            | 9, hi, _, _, _ => exact absurd hi (by decide)
          case done =>
            rintro x W ⟨hrow, hbel⟩ hx
            have e12 : x 12 = .int .i64 0 := hx 12 (by decide) (by decide)
            simp only [putsV, Act.put, List.setIfInBounds_toArray, List.set_cons_succ, List.set_cons_zero, List.set_nil, Nat.reduceAdd, e12]
            generalize x 0 = z0, x 1 = z1, x 2 = z2, x 3 = z3, x 4 = z4, x 5 = z5, x 6 = z6, x 7 = z7, x 8 = z8, x 9 = z9, x 10 = z10
            clear hx e12
            have HR3 := veil hrow
            have HE3 := veil hbel
            clear hrow hbel
            have HP3 := veil (HQ.out.below HE3.out)
            have KC : Hid (∀ W', Below W.heap.size W W' → W'.cell? ⟨w.heap.size, 0, none⟩ = some (.int .u64 (R : Int)) ∧ W'.cell? ⟨w.heap.size, 1, none⟩ = some (.int .u64 (V : Int)) ∧ W'.cell? ⟨g, off + k * 2 + 1, none⟩ = some (.int .u16 (M : Int))) := fun W' hW => ⟨(HR3.out.below hW HR3.out.lt).cell 0, (HR3.out.below hW HR3.out.lt).cell 1, by have h := ((HP3.out.below hW).cell k HLT.out).2; rw [HMM.out] at h; exact h⟩
            obtain ⟨k0, k1, k2⟩ := KC.out W (Below.refl _ _)
            go_wp2_with fail
            go_region_held3 (fun w' => w'.cell? ⟨w.heap.size, 0, none⟩ = some (.int .u64 (R : Int)) ∧ w'.cell? ⟨w.heap.size, 1, none⟩ = some (.int .u64 (V : Int)) ∧ w'.cell? ⟨g, off + k * 2 + 1, none⟩ = some (.int .u16 (M : Int))) (first | exact KC.out _ d1.out | exact KC.out _ (Below.refl _ _) | go_keep) (first
              | (refine step_callG (by kernel_rfl) 17 #[.agg #[.int .u64 (R : Int), .int .u64 (V : Int)]] (by kernel_rfl) ?_; refine (LC.out _).mono ?_; rintro e9 w9 ⟨rfl, hb9⟩; have d1 := veil (((Below.refl _ W).drew).trans hb9); clear hb9; refine ⟨_, rfl, ?_⟩))
            have ROW9 := veil (HR3.out.below d1.out HR3.out.lt)
            have BEL9 := veil (HE3.out.trans (d1.out.mono HE3.out.size))
            clear d1 k0 k1 k2 KC HP3 HR3 HE3
            go_wp2_with fail
            go_roundw
            case rel => exact ⟨k + 1, R, V, by have := HLT.out; omega, by go_num, rfl, HVR.out, HRB.out, ROW9.out, BEL9.out⟩
            case measure => have := HLT.out; simp [intOf]; omega
        · have SC := veil (fun w => spends_no L U N w hUL hLB hN16 hsp)
          obtain ⟨V, hV⟩ : ∃ V, U = V := ⟨_, rfl⟩
          subst hV
          obtain ⟨V, hV⟩ : ∃ V, U = V := ⟨_, rfl⟩
          obtain ⟨R, hR⟩ : ∃ R, Nat.max L M = R := ⟨_, rfl⟩
          have hRge : L ≤ R := by rw [← hR]; exact Nat.le_max_left _ _
          have hRM : M ≤ R := by rw [← hR]; exact Nat.le_max_right _ _
          have HRB : Hid (R ≤ 4294967295) := veil (by have := HM.out; rw [← hR]; exact Nat.max_le.2 ⟨hLB, by omega⟩)
          have HVR : Hid (U ≤ R) := veil (by omega)
          have RC := veil (fun w => spends_raise L U M w hUL hLB HM.out)
          rw [hR] at RC
          have LC := veil (fun w => spends_left R U w HVR.out HRB.out)
          obtain ⟨D, hD⟩ : ∃ D, R - U = D := ⟨_, rfl⟩
          rw [hD] at LC
          have hDI : (D : Int) + (U : Int) = (R : Int) := by have := HVR.out; omega
          have hMw : IntKind.u64.wrap (M : Int) = (M : Int) := by rw [IntKind.wrap_u64]; omega
          have hRw : IntKind.u64.wrap (R : Int) = (R : Int) := by have := HRB.out; rw [IntKind.wrap_u64]; omega
          have hd1 : decide ((R : Int) < (M : Int)) = false := decide_eq_false (by omega)
          have hd2 : decide (R < M) = false := decide_eq_false (by omega)
          clear hV hR hD hRM
          go_wp2_with fail
          refine (SC.out wr).mono ?_
          rintro e2 w2 ⟨rfl, hb2⟩
          have r2 := (HROW.out.below hb2 HROW.out.lt).alloc (.cells #[.int .u64 0, .int .u64 0] 24)
          have b2 := HBEL.out.trans (hb2.mono HBEL.out.size)
          have E3 := veil (b2.alloc b2.size (.cells #[.int .u64 0, .int .u64 0] 24))
          have y0 : (w2.alloc (.cells #[.int .u64 0, .int .u64 0] 24)).cell? ⟨w.heap.size, 0, none⟩ = some (.int .u64 (L : Int)) := r2.cell 0
          have HC := veil r2
          clear x0 x1 hb2 r2 b2 HROW HBEL SC c1
          go_wp2_with fail
          generalize w2.alloc (.cells #[.int .u64 0, .int .u64 0] 24) = q3 at *
          clear y0
          have HP := fun W (hW : Below q3.heap.size q3 W) => (show W.cell? ⟨g, off + k * 2 + 1, none⟩ = some (.int .u16 (M : Int)) from by have h := ((HQ.out.below (E3.out.trans (hW.mono E3.out.size))).cell k HLT.out).2; rw [HMM.out] at h; exact h)
          refine (wpIn_wide (n := 4)).1 ?_
          refine wpIn_region_any (by kernel_rfl) ?_
          refine anyIn_mem (valSp L U M R g off len cap k) (fun W => Below q3.heap.size q3 W) (fun W => Row W w.heap.size 24 #[.int .u64 (R : Int), .int .u64 (U : Int)] ∧ Below w.heap.size w W) 11 (fun j => decide (j < 10)) [52, 53, 54, 55, 56, 57, 58, 59, 51, 60, 61, 91, 10] depSp (by kernel_rfl) rfl (by decide) (by decide) rfl depSp_all ((Below.refl _ _).drew) ?step ?store ?after ?done
          case step =>
            intro x W i e hi hW hdi hdep
            match i, hi, hdi, hdep with
            | 0, _, hdi, _ =>
              obtain rfl := Option.some.inj hdi
              exact OI_value rfl rfl (about_none (by intro c h; cases h)) (by intro c h; cases h) (.agg #[.int .u64 (L : Int), .int .u64 (U : Int)]) W (run_load_st 24 _ rfl w.heap.size (by kernel_rfl) 24 #[.int .u64 (L : Int), .int .u64 (U : Int)] 2 _ Try.underlying24 (by kernel_rfl) rfl W (HC.out.below hW HC.out.lt)) ⟨_, rfl, hW, rfl⟩
            | 1, _, hdi, _ =>
              obtain rfl := Option.some.inj hdi
              exact OI_value rfl rfl (about_none (by intro c h; cases h)) (by intro c h; cases h) (.slice (some ⟨g, off, none⟩) len cap) W (by kernel_rfl) ⟨_, rfl, hW, rfl⟩
            | 2, _, hdi, _ =>
              obtain rfl := Option.some.inj hdi
              exact OI_value rfl rfl (about_none (by intro c h; cases h)) (by intro c h; cases h) (.int .i64 (k : Int)) W (by kernel_rfl) ⟨_, rfl, hW, rfl⟩
            | 3, _, hdi, hdep =>
              obtain rfl := Option.some.inj hdi
              rw [updV_self (show x 1 = _ from hdep 1 (by simp [depSp])), updV_self (show updV x 1 _ 2 = _ from hdep 2 (by simp [depSp]))]
              exact OI_value rfl rfl (about_none (by intro c h; cases h)) (by intro c h; cases h) (.pointer (some ⟨g, off + k * 2, none⟩)) W (run_at2 46 48 _ _ g off len cap k rfl (by kernel_rfl) (by kernel_rfl) Try.underlying46 (by kernel_rfl) HLT.out W) ⟨_, rfl, hW, rfl⟩
            | 4, _, hdi, hdep =>
              obtain rfl := Option.some.inj hdi
              rw [updV_self (show x 3 = _ from hdep 3 (by simp [depSp]))]
              exact OI_value rfl rfl (about_none (by intro c h; cases h)) (by intro c h; cases h) (.pointer (some ⟨g, off + k * 2 + 1, none⟩)) W (run_atA 48 47 2 _ _ g (off + k * 2) 1 rfl (by kernel_rfl) (by kernel_rfl) Try.underlying48 (by kernel_rfl) (by decide) W) ⟨_, rfl, hW, rfl⟩
            | 5, _, hdi, hdep =>
              obtain rfl := Option.some.inj hdi
              rw [updV_self (show x 4 = _ from hdep 4 (by simp [depSp]))]
              exact OI_value rfl rfl (about_none (by intro c h; cases h)) (by intro c h; cases h) (.int .u16 (M : Int)) W (run_cell14 47 _ ⟨g, off + k * 2 + 1, none⟩ _ _ rfl (by kernel_rfl) Try.underlying47 rfl W (HP W hW)) ⟨_, rfl, hW, rfl⟩
            | 6, _, hdi, hdep =>
              obtain rfl := Option.some.inj hdi
              rw [updV_self (show x 5 = _ from hdep 5 (by simp [depSp]))]
              exact OI_value rfl rfl (about_none (by intro c h; cases h)) (by intro c h; cases h) (.int .u64 (M : Int)) W (run_conv16 _ _ _ M HM.out rfl (by kernel_rfl) Try.underlying47 Try.underlying22 W) ⟨_, rfl, hW, rfl⟩
            | 7, _, hdi, hdep =>
              obtain rfl := Option.some.inj hdi
              rw [updV_self (show x 0 = _ from hdep 0 (by simp [depSp])), updV_self (show updV x 0 _ 6 = _ from hdep 6 (by simp [depSp]))]
              refine OI_call rfl rfl (by intro c h; cases h) 9 #[.agg #[.int .u64 (L : Int), .int .u64 (U : Int)], .int .u64 (M : Int)] (fun _ _ => trivial) (by kernel_rfl) (by decide) ?_
              refine (callsIn_wide.2 (RC.out W)).mono ?_
              rintro e w' ⟨rfl, hb'⟩
              exact ⟨_, rfl, _, rfl, hW.trans (hb'.mono hW.size), rfl⟩
            | 8, _, hdi, hdep =>
              obtain rfl := Option.some.inj hdi
              rw [updV_self (show x 7 = _ from hdep 7 (by simp [depSp]))]
              exact OI_value rfl rfl (about_none (by intro c h; cases h)) (by intro c h; cases h) (.tuple #[.agg #[.int .u64 (R : Int), .int .u64 (U : Int)], .int .i64 0]) W (by kernel_rfl) ⟨_, rfl, hW, rfl⟩
            | 9, _, hdi, hdep =>
              obtain rfl := Option.some.inj hdi
              rw [updV_self (show x 8 = _ from hdep 8 (by simp [depSp]))]
              exact OI_value rfl rfl (about_none (by intro c h; cases h)) (by intro c h; cases h) (.agg #[.int .u64 (R : Int), .int .u64 (U : Int)]) W (by kernel_rfl) ⟨_, rfl, hW, rfl⟩
            | _ + 10, hi, _, _ => exact absurd (of_decide_eq_true hi) (by omega)
          case store =>
            intro x W hW hx
            rw [updV_self (show x 9 = _ from hx 9 (by decide))]
            refine OI_skip rfl rfl (about_none (by intro c h; cases h)) (by intro c h; cases h) (W.setRow w.heap.size #[.int .u64 (R : Int), .int .u64 (U : Int)]) (run_store_row 24 _ _ rfl w.heap.size #[.int .u64 (R : Int), .int .u64 (U : Int)] (by kernel_rfl) (by kernel_rfl) 24 #[.int .u64 (L : Int), .int .u64 (U : Int)] (HC.out.below hW HC.out.lt) 2 (by kernel_rfl) rfl rfl (by simp [Value.oneCell'])) ⟨put_none _ _, ?_, ?_⟩
            · exact (HC.out.below hW HC.out.lt).put _
            · exact bSetRow (E3.out.trans (hW.mono E3.out.size)) (Nat.le_refl _) _
          case after =>
            intro x W i e hi hne hdi hdep
            match i, hi, hne, hdi, hdep with
            | 10, _, _, hdi, hdep =>
              obtain rfl := Option.some.inj hdi
              rw [updV_self (show x 8 = _ from hdep 8 (by simp [depSp]) (by decide))]
              exact OI_value rfl rfl (about_none (by intro c h; cases h)) (by intro c h; cases h) (.int .i64 0) W (by kernel_rfl) ⟨_, rfl, rfl, rfl⟩
            | 11, _, hne, _, _ => exact absurd rfl hne
            | 12, _, _, hdi, hdep =>
              obtain rfl := Option.some.inj hdi
              rw [updV_self (show x 10 = _ from hdep 10 (by simp [depSp]) (by decide))]
              exact OI_value rfl rfl (about_none (by intro c h; cases h)) (by intro c h; cases h) (.int .i64 0) W (by kernel_rfl) ⟨_, rfl, rfl, rfl⟩
            | _ + 13, _, _, hdi, _ => simp at hdi
            | 0, hi, _, _, _ => exact absurd hi (by decide)
            | 1, hi, _, _, _ => exact absurd hi (by decide)
            | 2, hi, _, _, _ => exact absurd hi (by decide)
            | 3, hi, _, _, _ => exact absurd hi (by decide)
            | 4, hi, _, _, _ => exact absurd hi (by decide)
            | 5, hi, _, _, _ => exact absurd hi (by decide)
            | 6, hi, _, _, _ => exact absurd hi (by decide)
            | 7, hi, _, _, _ => exact absurd hi (by decide)
            | 8, hi, _, _, _ => exact absurd hi (by decide)
            | 9, hi, _, _, _ => exact absurd hi (by decide)
          case done =>
            rintro x W ⟨hrow, hbel⟩ hx
            have e12 : x 12 = .int .i64 0 := hx 12 (by decide) (by decide)
            simp only [putsV, Act.put, List.setIfInBounds_toArray, List.set_cons_succ, List.set_cons_zero, List.set_nil, Nat.reduceAdd, e12]
            generalize x 0 = z0, x 1 = z1, x 2 = z2, x 3 = z3, x 4 = z4, x 5 = z5, x 6 = z6, x 7 = z7, x 8 = z8, x 9 = z9, x 10 = z10
            clear hx e12
            have HR3 := veil hrow
            have HE3 := veil hbel
            clear hrow hbel
            have HP3 := veil (HQ.out.below HE3.out)
            have KC : Hid (∀ W', Below W.heap.size W W' → W'.cell? ⟨w.heap.size, 0, none⟩ = some (.int .u64 (R : Int)) ∧ W'.cell? ⟨w.heap.size, 1, none⟩ = some (.int .u64 (U : Int)) ∧ W'.cell? ⟨g, off + k * 2 + 1, none⟩ = some (.int .u16 (M : Int))) := fun W' hW => ⟨(HR3.out.below hW HR3.out.lt).cell 0, (HR3.out.below hW HR3.out.lt).cell 1, by have h := ((HP3.out.below hW).cell k HLT.out).2; rw [HMM.out] at h; exact h⟩
            obtain ⟨k0, k1, k2⟩ := KC.out W (Below.refl _ _)
            go_wp2_with fail
            go_region_held3 (fun w' => w'.cell? ⟨w.heap.size, 0, none⟩ = some (.int .u64 (R : Int)) ∧ w'.cell? ⟨w.heap.size, 1, none⟩ = some (.int .u64 (U : Int)) ∧ w'.cell? ⟨g, off + k * 2 + 1, none⟩ = some (.int .u16 (M : Int))) (first | exact KC.out _ d1.out | exact KC.out _ (Below.refl _ _) | go_keep) (first
              | (refine step_callG (by kernel_rfl) 17 #[.agg #[.int .u64 (R : Int), .int .u64 (U : Int)]] (by kernel_rfl) ?_; refine (LC.out _).mono ?_; rintro e9 w9 ⟨rfl, hb9⟩; have d1 := veil (((Below.refl _ W).drew).trans hb9); clear hb9; refine ⟨_, rfl, ?_⟩))
            have ROW9 := veil (HR3.out.below d1.out HR3.out.lt)
            have BEL9 := veil (HE3.out.trans (d1.out.mono HE3.out.size))
            clear d1 k0 k1 k2 KC HP3 HR3 HE3
            go_wp2_with fail
            go_roundw
            case rel => exact ⟨k + 1, R, U, by have := HLT.out; omega, by go_num, rfl, HVR.out, HRB.out, ROW9.out, BEL9.out⟩
            case measure => have := HLT.out; simp [intOf]; omega
      · obtain rfl : k = len := by omega
        have HB := veil hbel
        clear hrow hbel B0 R0 hlt
        go_wp2_with fail
        refine (lives_any wr).mono ?_
        rintro e1 w1 ⟨rfl, hb1⟩
        have E1 := veil (HB.out.trans (hb1.mono HB.out.size))
        clear hb1
        go_wp2_with fail
        go_ret
        exact ⟨rfl, E1.out⟩
end Go.Proofs.Ytepkajaallcnmaa
