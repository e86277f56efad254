/-
  What aead.tagged answers, of any number of lists.
-/
import Derived.Test.YtffokggejbmadaaDoorGdAeLock
import Derived.Test.YtffokggejbmadaaDoorGdAeZeros
namespace Go.Proofs.YtffokggejbmadaaDoor
open Go Go.RowKit

/-- What is tagged, so many lists of it; how many bytes each has, so many of them. -/
def accT (L : Nat → SL) : Nat → List By
  | 0 => []
  | k + 1 => accT L k ++ (L k).b ++ List.replicate (pad16 (L k).len) 0
def numT (L : Nat → SL) (z : List By) : Nat → List By
  | 0 => z
  | k + 1 => numT L z k ++ eightL (L k).len
theorem shr8a (p : Int) (i : Nat) (h : i < 8) : Op.shift .shr .u64 p .i64 (8 * (i : Int)) = pure (.int .u64 (p / 2 ^ (8 * i))) := by
  rw [shift_shr_u64 (x := p) (yk := .i64) (y := 8 * (i : Int)) (by omega) (by omega), show (8 * (i : Int)).toNat = 8 * i by omega]
theorem byte_shr (n i : Nat) : (n : Int) / 2 ^ (8 * i) % 256 = v8 (byteAt n i) := by
  rw [v8_byteAt, show (256 : Nat) ^ i = 2 ^ (8 * i) by rw [Nat.pow_mul]]
  simp

set_option maxRecDepth 20000 in
set_option maxHeartbeats 4000000 in
theorem tagged_any (N st cap : Nat) (L : Nat → SL) (hN : N ≤ 4) (w : World) (hst : st < w.heap.size) (hc : ∀ k, k < N → w.cell? ⟨st, k, none⟩ = some (.slice (L k).a (L k).len (L k).cap)) (hL : ∀ k, k < N → (L k).Ok w ∧ (L k).len ≤ 1048576) :
    Calls Tryd.prog 35 #[.slice (some ⟨st, 0, none⟩) N cap] w fun e w' => ∃ v, e = .returned v ∧ w'.ownsRow w.heap.size 5 1 v (numT L (accT L N) N).length (vb (numT L (accT L N) N)) ∧ Below w.heap.size w w' := by
  obtain ⟨i0, hi, hz0, hz1, hz2⟩ := info_parts (P := Tryd.prog) (e := 5) (z := .int .u8 0) (size := 1) (bytes := 1) (by kernel_rfl)
  have HC := veil hc
  have HL := veil hL
  clear hc hL
  go_enter Tryd.func35, Tryd.ntmps35
  go_wp2
  go_loopw [3, 11] (fun bv iv wr => ∃ (k n : Nat) (a : Option Addr) (c : Nat), k ≤ N ∧ iv = .int .i64 k ∧ n ≤ 1048592 * k ∧ bv = .slice a n c ∧ Hid (n = (accT L k).length) ∧ wr.ownsRow w.heap.size 5 1 (.slice a n c) n (vb (accT L k)) ∧ Below w.heap.size w wr)
    (fun _ iv _ => N - (intOf iv).toNat)
  case atStart => exact ⟨0, 0, none, 0, by omega, rfl, by omega, rfl, rfl, World.ownsRow_nil _ _ _ _, Below.refl _ _⟩
  case round =>
    obtain ⟨k, n, a, c, hk, rfl, hn, rfl, HNL, hown, hbel⟩ := hrel
    have HOWN := veil hown
    have HB := veil hbel
    have hsz := hbel.size
    clear hown hbel
    by_cases hlt : k < N
    · have hdk : decide ((k : Int) < (N : Int)) = true := by simp; omega
      have ck : wr.cell? ⟨st, k, none⟩ = some (.slice (L k).a (L k).len (L k).cap) := (HB.out.cell (p := ⟨st, k, none⟩) hst).trans (HC.out k hlt)
      have HQ := veil ((HL.out k hlt).1.below HB.out)
      have hql := (HL.out k hlt).2
      have hql' : (L k).len ≤ 140737488355328 := by omega
      have hqb := HQ.out.hb
      generalize hq : L k = q at *
      have HQQ := veil hq
      clear hq
      have hpad := pad16_lt q.len
      go_wp2_with (with_reducible (show wpList _ _ _ (⟨some 17, Op.call _, _, _, _, _⟩ :: _) _ _)
                   refine append_sl rfl _ _ 22 rfl w.heap.size i0 Tryd.underlying22 hi hz0 hz1 hz2 _ n _ rfl HOWN.out q HQ.out rfl (by omega) hsz ?_
                   intro v1 w1 hown1 hgrow1)
      obtain ⟨a1, c1, rfl⟩ := own_shape hown1
      have HB1 := veil (HB.out.grown hgrow1 hsz (fun k e => (HOWN.out.lt k e).1))
      have hsz1 := HB1.out.size
      have HO1 := veil hown1
      clear hown1 hgrow1 HOWN HQ HB ck
      go_wp2_with fail
      refine (missing_any q.len hql' w1).mono ?_
      rintro e2 w2 ⟨rfl, hw2⟩
      rw [hw2]
      clear hw2 w2
      obtain ⟨v3, w3, hr3, hown3, hgrow3⟩ := run_append_zeros8 (P := Tryd.prog) w1 w.heap.size 22 3 22 5 i0 .i64 .i64 Tryd.underlying22 Tryd.underlying3 hi hz0 hz1 hz2 _ _ _ HO1.out (pad16 q.len) (by omega) hsz1
      have HR3 := veil hr3
      clear hr3
      go_wp2_with (with_reducible (show wpList _ _ _ (⟨some 22, Op.call _, _, _, _, _⟩ :: _) _ _)
                   refine Lib.wpList_append_run w1 rfl _ _ 22 3 rfl _ _ rfl rfl _ _ HR3.out ?_)
      obtain ⟨a3, c3, rfl⟩ := own_shape hown3
      have HB3 := veil (HB1.out.grown hgrow3 hsz1 (fun k e => (HO1.out.lt k e).1))
      have HO3 := veil hown3
      clear hown3 hgrow3 HO1 HB1
      go_wp2_with fail
      go_roundw
      case rel =>
        have e : accT L (k + 1) = accT L k ++ q.b ++ List.replicate (pad16 q.len) 0 := by rw [← HQQ.out]; rfl
        refine ⟨k + 1, n + q.len + pad16 q.len, a3, c3, by omega, by go_num, by omega, rfl, ?_, ?_, HB3.out⟩
        · show _ = _
          rw [e, List.length_append, List.length_append, List.length_replicate, ← HNL.out, hqb]
        · rw [e]; exact HO3.out
      case measure => simp [intOf]; omega
    · obtain rfl : N = k := by omega
      have hdk : decide ((N : Int) < (N : Int)) = false := by simp
      go_wp2_with fail
      go_loopw [3, 26] (fun bv iv wr2 => ∃ (k2 n2 : Nat) (a2 : Option Addr) (c2 : Nat), k2 ≤ N ∧ iv = .int .i64 k2 ∧ n2 ≤ 1048592 * N + 8 * k2 ∧ bv = .slice a2 n2 c2 ∧ Hid (n2 = (numT L (accT L N) k2).length) ∧ wr2.ownsRow w.heap.size 5 1 (.slice a2 n2 c2) n2 (vb (numT L (accT L N) k2)) ∧ Below w.heap.size w wr2)
        (fun _ iv _ => N - (intOf iv).toNat)
      case atStart => exact ⟨0, n, a, c, by omega, rfl, by omega, rfl, HNL, HOWN.out, HB.out⟩
      case round =>
        clear HOWN HB HNL
        obtain ⟨k2, n2, a2, c2, hk2, rfl, hn2, rfl, HNL2, hown2, hbel2⟩ := hrel
        have HOWN2 := veil hown2
        have HB2 := veil hbel2
        have hsz2 := hbel2.size
        clear hown2 hbel2
        by_cases hlt2 : k2 < N
        · have hdk2 : decide ((k2 : Int) < (N : Int)) = true := by simp; omega
          have ck : wr.cell? ⟨st, k2, none⟩ = some (.slice (L k2).a (L k2).len (L k2).cap) := (HB2.out.cell (p := ⟨st, k2, none⟩) hst).trans (HC.out k2 hlt2)
          have hql := (HL.out k2 hlt2).2
          generalize hq : L k2 = q at *
          have HQQ := veil hq
          clear hq
          go_wp2_with fail
          go_loopw [3, 30] (fun bv iv wr3 => ∃ (i n3 : Nat) (a3 : Option Addr) (c3 : Nat), i ≤ 8 ∧ iv = .int .i64 i ∧ n3 ≤ 1048592 * N + 8 * k2 + i ∧ bv = .slice a3 n3 c3 ∧ Hid (n3 = (numT L (accT L N) k2 ++ eightTo q.len i).length) ∧ wr3.ownsRow w.heap.size 5 1 (.slice a3 n3 c3) n3 (vb (numT L (accT L N) k2 ++ eightTo q.len i)) ∧ Below w.heap.size w wr3)
            (fun _ iv _ => 8 - (intOf iv).toNat)
          case atStart =>
            refine ⟨0, n2, a2, c2, by omega, rfl, by omega, rfl, ?_, ?_, HB2.out⟩
            · rw [eightTo_zero, List.append_nil]; exact HNL2
            · rw [eightTo_zero, List.append_nil]; exact HOWN2.out
          case round =>
            obtain ⟨i, n3, a3, c3, hi8, rfl, hn3, rfl, HNL3, hown3, hbel3⟩ := hrel
            have HOWN3 := veil hown3
            have HB3 := veil hbel3
            have hsz3 := hbel3.size
            clear hown3 hbel3
            by_cases hlt3 : i < 8
            · have hdk3 : decide ((i : Int) < 8) = true := by simp; omega
              have hs1 := shr8a (q.len : Int) i hlt3
              have HV := veil (byte_shr q.len i)
              have hw1 : IntKind.u64.wrap (q.len : Int) = (q.len : Int) := by rw [IntKind.wrap_u64]; omega
              go_wp2_with (with_reducible (show wpList _ _ _ (⟨some 42, Op.call _, _, _, _, _⟩ :: _) _ _)
                           rw [HV.out]
                           refine append_sl rfl _ _ 22 rfl w.heap.size i0 Tryd.underlying22 hi hz0 hz1 hz2 _ n3 _ rfl (HOWN3.out.alloc _) (rowN wr.heap.size 1 [byteAt q.len i]) (rowN_ok (Row.new _ _ _) rfl) rfl (by show n3 + 1 ≤ 8388608; omega) (by simp; omega) ?_
                           intro v4 w4 hown4 hgrow4)
              obtain ⟨a4, c4, rfl⟩ := own_shape hown4
              have HB4 := veil ((HB3.out.alloc hsz3 (.cells #[.int .u8 (v8 (byteAt q.len i))] 5)).grown hgrow4 (by simp; omega) (fun k e => (HOWN3.out.lt k e).1))
              have HO4 := veil hown4
              clear hown4 hgrow4
              go_wp2_with fail
              go_roundw
              case rel =>
                refine ⟨i + 1, n3 + 1, a4, c4, by omega, by go_num, by omega, rfl, ?_, ?_, HB4.out⟩
                · show _ = _
                  rw [eightTo_succ, ← List.append_assoc, List.length_append, ← HNL3.out]
                  rfl
                · rw [eightTo_succ, ← List.append_assoc]; exact HO4.out
              case measure => simp [intOf]; omega
            · have hdk3 : decide ((i : Int) < 8) = false := by simp; omega
              obtain rfl : i = 8 := by omega
              go_wp2_with fail
              go_roundw
              case rel =>
                have e : numT L (accT L N) (k2 + 1) = numT L (accT L N) k2 ++ eightTo q.len 8 := by rw [← HQQ.out]; rfl
                exact ⟨k2 + 1, n3, a3, c3, by omega, by go_num, by omega, rfl, by rw [e]; exact HNL3, by rw [e]; exact HOWN3.out, HB3.out⟩
              case measure => simp [intOf]; omega
        · obtain rfl : N = k2 := by omega
          have hdk2 : decide ((N : Int) < (N : Int)) = false := by simp
          have hNL2 := HNL2.out
          subst hNL2
          go_wp2_with fail
          go_ret
          exact ⟨_, rfl, HOWN2.out, HB2.out⟩
end Go.Proofs.YtffokggejbmadaaDoor
