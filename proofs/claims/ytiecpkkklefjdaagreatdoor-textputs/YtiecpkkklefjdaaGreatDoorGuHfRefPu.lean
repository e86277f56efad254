/-
  What the document's Len and Put answer.
-/
import Derived.Test.YtiecpkkklefjdaaGreatDoorGuHfRefC
import Derived.Test.YtiecpkkklefjdaaGreatDoorGuHfPackS
import Derived.Laws.OwnMore
import Derived.BigRegion
namespace Go.Proofs.YtiecpkkklefjdaaGreatDoor
open Go Go.RowKit

section
variable {P : Program} {a : Act} {o : Oper}
theorem run_rem8d (t t' : TypeId) (x y : Operand) (m r : Nat) (hr : r = m % 8) (ho : o.op = .binOp .rem t x y t') (hx : a.eval x = .int .i64 (m : Int)) (hy : a.eval y = .int .i64 8) (W : World) :
    (execOp a.eval o).run P W = .ok (.value (.int .i64 (r : Int))) W := by
  have hw : IntKind.i64.wrap ((m : Int) % 8) = ((m % 8 : Nat) : Int) := by rw [IntKind.wrap_i64]; omega
  rw [hr]
  unfold execOp
  simp only [ho, hx, hy]
  go_simp
  rw [Int.tmod_eq_emod_of_nonneg (by omega)]
theorem run_shr32d (t t' : TypeId) (x y : Operand) (v r s : Nat) (hr : r ≤ 32) (hs : s = v / 2 ^ r) (ho : o.op = .binOp .shr t x y t') (hx : a.eval x = .int .u32 (v : Int)) (hy : a.eval y = .int .i64 (r : Int)) (W : World) :
    (execOp a.eval o).run P W = .ok (.value (.int .u32 (s : Int))) W := by
  unfold execOp
  simp only [ho, hx, hy]
  go_simp
theorem run_and32d (t t' : TypeId) (x y : Operand) (v c : Nat) (hc : c = v % 2) (hv : v < 4294967296) (ho : o.op = .binOp .and t x y t') (hx : a.eval x = .int .u32 (v : Int)) (hy : a.eval y = .int .u32 1) (W : World) :
    (execOp a.eval o).run P W = .ok (.value (.int .u32 (c : Int))) W := by
  have h : bits .and .u32 (v : Int) 1 = ((v % 2 : Nat) : Int) := by
    rw [u32_and _ _ (by omega) (by omega) (by omega) (by omega)]
    simp [Nat.and_one_is_mod]
  rw [hc]
  unfold execOp
  simp only [ho, hx, hy]
  go_simp
end
set_option maxRecDepth 20000 in
set_option maxHeartbeats 1000000 in
theorem lenR_any (s : ByteArray) (hl : s.size ≤ 4194304) (w : World) : Calls Tryz.prog 19 #[.string s] w fun e w' => e = .returned (.int .i64 (Hf.packN (Hf.txt (bOf s)) : Int)) ∧ Below w.heap.size w w' := by
  go_enter Tryz.func19, Tryz.ntmps19
  go_wp2_with fail
  refine (lengths_any w).mono ?_
  rintro e1 w2 ⟨rfl, hw1⟩
  have R : Row w2 w.heap.size 3 (ia Hf.szL) := by rw [hw1]; exact Row.new _ _ _
  have b2 : Below w.heap.size w w2 := by rw [hw1]; exact (Below.refl _ w).alloc (Nat.le_refl _) _
  clear hw1
  generalize hB : w.heap.size = B at R
  clear hB
  go_wp2_with fail
  have HL := veil (bOf_length s)
  go_loopw [4, 5] (fun m i wr => ∃ k N : Nat, k ≤ s.size ∧ i = .int .i64 k ∧ m = .int .i64 N ∧ N = (Hf.txt ((bOf s).take k)).length ∧ w2 = wr)
    (fun _ i _ => s.size - (intOf i).toNat)
  case atStart => exact ⟨0, 0, by omega, rfl, rfl, rfl, rfl⟩
  case round =>
    obtain ⟨k, N, hk, rfl, rfl, hN, rfl⟩ := hrel
    have hle := Hf.txt_length_le ((bOf s).take k)
    rw [← hN, List.length_take, HL.out] at hle
    by_cases hlt : k < s.size
    · have hix := fun W => run_strIx (P := Tryz.prog) Tryz.underlying9 s k hlt W
      have hx := (gb (bOf s) k).isLt
      have e8 : v8 (gb (bOf s) k) = ((gb (bOf s) k).toNat : Int) := rfl
      have HT := veil (txt_take (bOf s) (k := k) (by rw [HL.out]; exact hlt))
      have hw := Hf.word_ok (i := (gb (bOf s) k).toNat) (by omega)
      have HN := veil hN
      rw [e8] at hix
      generalize (gb (bOf s) k).toNat = x at *
      have c := R.cellI (j := x) (by rw [Hf.sz_len]; omega)
      rw [Hf.gn_sz] at c
      have h30 := hw.2.1
      clear hw hN e8
      go_wp2
      go_roundw
      case rel => exact ⟨k + 1, N + Hf.sz x, by omega, by go_num, by go_num, by rw [HT.out, List.length_append, Hf.wb_length, ← HN.out], by first | trivial | rfl⟩
      case measure => simp [intOf]; omega
    · obtain rfl : k = s.size := by omega
      rw [List.take_of_length_le (by rw [HL.out]; omega)] at hN
      have HN := veil hN
      have hle2 : N ≤ 125829120 := by omega
      clear hN hle hlt
      go_wp2
      go_ret
      refine ⟨?_, b2⟩
      unfold Hf.packN
      rw [← HN.out]
      rfl
set_option maxHeartbeats 400000 in
theorem putR_limit (s : ByteArray) (hs : 65536 < s.size) (hl : s.size ≤ 9223372036854775807) (w : World) : Calls Tryz.prog 20 #[.string s] w fun e w' => e = .returned (.tuple #[.slice none 0 0, .int .i64 3]) ∧ w' = w := by
  have h : (s.size : Int) > 65536 := by omega
  go_enter Tryz.func20, Tryz.ntmps20
  go_wp2
  go_ret2
  exact ⟨rfl, rfl⟩
end Go.Proofs.YtiecpkkklefjdaaGreatDoor
