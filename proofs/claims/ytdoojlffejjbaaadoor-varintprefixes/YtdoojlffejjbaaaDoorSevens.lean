/-
  What varint.sevens tells, one by one; what varint.PutPrefix answers.
-/
import Derived.RangeFuncNested
import Derived.RangeFuncBox
import Derived.RangeFuncBound
import Derived.RangeFuncCalls
import Derived.RangeFuncLeaves
import Derived.Shelf.Abstract
import Derived.Shelf.RegionOpen
import Derived.WalkKit
import Derived.OwnWalkIn
import Derived.TacticsInMore
import Derived.LoopNIn
import Derived.LoopIn
import Derived.Maps.AppendAt
import Derived.Test.YtdoojlffejjbaaaDoorHelp
import Derived.Test.YtdoojlffejjbaaaDoorPlain2
namespace Go.Proofs.YtdoojlffejjbaaaDoor
open Go.RowKit Go.Shelf
attribute [local go_sem] Oper.semAt_some

set_option maxRecDepth 100000 in
set_option maxHeartbeats 1000000 in
theorem sevens1_in (F : Fence) (n : Nat) (h6 : F.fn 88) (hro : F.round = none) (hn : 1 ≤ n) (l Bn n₀ : Nat) (m : Int) (hm0 : 0 ≤ m) (hm1 : m < 4611686018427387904) (J Jx : List Int → World → Prop)
    (hY : ∀ pre x W, J pre W → pre.length < 10 → YieldAt F (n - 1) Tryd.prog l #[.int .u8 x] W fun e W' =>
      (e = .returned (.bool true) ∧ J (pre ++ [x]) W' ∧ Below n₀ W W') ∨ (e = .returned (.bool false) ∧ Jx (pre ++ [x]) W'))
    (W : World) (hBn : W.cell? ⟨Bn, 0, none⟩ = some (.int .u64 m)) (h0 : J [] W) :
    CallsIn F n Tryd.prog 88 #[.func (.yield l) #[] #[], .pointer (some ⟨Bn, 0, none⟩)] W fun e W' => (∃ v, e = .returned v) ∧
      ((∃ ys, ys = sev 9 m ∧ J ys W') ∨ (∃ pre, True ∧ Jx pre W')) := by
  refine callsIn_of_wp Tryd.func88 rfl h6 ?_ hro
  simp only [Tryd.ntmps88, List.size_toArray, List.length_cons, List.length_nil, Nat.reduceAdd, Nat.reduceSub, Array.replicate_succ, Array.replicate_zero, List.push_toArray, List.append_toArray, List.nil_append, List.cons_append]
  gi_wp2
  gi_loopw [3] (fun p wr => ∃ (pre : List Int) (f : Nat) (r : Int), p = .int .u64 r ∧ 0 ≤ r ∧ r < 4611686018427387904 ∧ pre.length + f = 9 ∧ r < pw f ∧ sev 9 m = pre ++ sev f r ∧ J pre wr)
    (fun p _ => (intOf p).toNat)
  case atStart =>
    exact ⟨[], 9, m, rfl, hm0, hm1, rfl, by rw [pw_nine]; omega, rfl, h0⟩
  case round =>
    obtain ⟨pre, f, r, rfl, hr0, hr1, hf, hr2, hs, hJs⟩ := hrel
    have HS : Hid (sev 9 m = pre ++ sev f r) := hs
    clear hs
    by_cases hlt : r < 128
    · obtain ⟨fn, tmps, assign, body, hy, hR⟩ := hY pre r wr hJs (by omega)
      gi_wp2
      refine hR.mono ?_
      have hfin : sev 9 m = pre ++ [r] := by rw [HS.out, sev_last f r hlt]
      rintro e W3 (⟨rfl, hJ3, hk3⟩ | ⟨rfl, hJx3⟩)
      · gi_wp2
        go_end0
        exact ⟨⟨_, rfl⟩, .inl ⟨_, hfin.symm, hJ3⟩⟩
      · gi_wp2
        go_end0
        exact ⟨⟨_, rfl⟩, .inr ⟨_, trivial, hJx3⟩⟩
    · cases f with
      | zero => have : r < 64 := hr2; omega
      | succ f =>
      have hor := or128 r hr0
      have hpw : r < 128 * pw f := hr2
      have hsn := sev_more f r (by omega)
      have hn1 : sev 9 m = (pre ++ [r % 128 + 128]) ++ sev f (r / 128) := by rw [HS.out, hsn]; simp
      have HN : Hid (sev 9 m = (pre ++ [r % 128 + 128]) ++ sev f (r / 128)) := hn1
      clear hsn HS hr2 hn1
      obtain ⟨fn, tmps, assign, body, hy, hR⟩ := hY pre (r % 128 + 128) wr hJs (by omega)
      gi_wp2
      refine hR.mono ?_
      rintro e W3 (⟨rfl, hJ3, hk3⟩ | ⟨rfl, hJx3⟩)
      · gi_wp2
        go_roundw
        case rel => exact ⟨pre ++ [r % 128 + 128], f, r / 128, rfl, by omega, by omega, by simp; omega, by omega, HN.out, hJ3⟩
        case measure => simp [intOf]; omega
      · gi_wp2
        refine bodyPost_ret (results_none rfl _ _ _) rfl ?_
        exact ⟨⟨_, rfl⟩, .inr ⟨_, trivial, hJx3⟩⟩

set_option maxHeartbeats 1000000 in
theorem sevens_in (F : Fence) (n : Nat) (h5 : F.fn 61) (hro : F.round = none) (m : Int) (w : World) :
    CallsIn F n Tryd.prog 61 #[.int .u64 m] w fun e w' => e = .returned (.func (.func 88) #[] #[.pointer (some ⟨w.heap.size, 0, none⟩)]) ∧ w' = w.alloc (.cells #[.int .u64 m] 22) := by
  refine callsIn_of_wp Tryd.func61 rfl h5 ?_ hro
  simp only [Tryd.ntmps61, List.size_toArray, List.length_cons, List.length_nil, Nat.reduceAdd, Nat.reduceSub, Array.replicate_succ, Array.replicate_zero, List.push_toArray, List.append_toArray, List.nil_append, List.cons_append]
  gi_wp2
  go_ret
  exact ⟨rfl, rfl⟩

theorem sevens_stops (F : Fence) (n : Nat) (h6 : F.fn 88) (hro : F.round = none) (hn : 1 ≤ n) (Bn n₀ : Nat) (m : Int) (hm0 : 0 ≤ m) (hm1 : m < 4611686018427387904) (w : World) (hBn : Bn < w.heap.size)
    (hc : w.cell? ⟨Bn, 0, none⟩ = some (.int .u64 m)) :
    SeqStopsK F n Tryd.prog 88 #[.pointer (some ⟨Bn, 0, none⟩)] (fun x : Int => #[Value.int .u8 x]) (Below n₀) (fun ys => ys = sev 9 m) (fun _ => True) 10 w := fun l J Jx W hW _ _ hY h0 =>
  sevens1_in F n h6 hro hn l Bn n₀ m hm0 hm1 J Jx hY W ((hW.cell (p := ⟨Bn, 0, none⟩) hBn).trans hc) h0
end Go.Proofs.YtdoojlffejjbaaaDoor
