/-
  What bytes.Repeat answers for one byte 255.
-/
import Derived.Test.YtiecpkkklefjdaaGreatDoorRows
import Derived.Test.YtiecpkkklefjdaaGreatDoorGuHfStr
import Derived.Lib.MakeNoZero
import Derived.Laws.CopyRow
import Derived.BigRegion
import Derived.Deep.QuietTactic
import Derived.BigQuiet
namespace Go.Proofs.YtiecpkkklefjdaaGreatDoor
open Go Go.RowKit

theorem mask64 (a : Nat) (h : a < 4294967296) : bits .and .u64 (a : Int) 4294967295 = (a : Int) := by
  rw [u64_and _ _ (by omega) (by omega) (by omega) (by omega)]
  have e : (a : Int).toNat &&& (4294967295 : Int).toNat = a := by
    show a &&& 4294967295 = a
    rw [show 4294967295 = 2 ^ 32 - 1 by decide, Nat.and_two_pow_sub_one_eq_mod]
    omega
  rw [e]
set_option maxHeartbeats 1000000 in
theorem mul64_one (N : Nat) (hN : N < 4294967296) (w : World) : Calls Tryz.prog 102 #[.int .u64 1, .int .u64 (N : Int)] w fun e w' => e = .returned (.tuple #[.int .u64 0, .int .u64 (N : Int)]) ∧ w' = w := by
  have h1 : bits .and .u64 1 4294967295 = 1 := mask64 1 (by decide)
  have h2 := mask64 N hN
  have h3 : (N : Int) / 4294967296 = 0 := by omega
  have h4 : bits .and .u64 0 4294967295 = 0 := mask64 0 (by decide)
  go_enter Tryz.func102, Tryz.ntmps102
  go_wp2
  go_ret2
  exact ⟨rfl, rfl⟩
set_option maxHeartbeats 1000000 in
theorem mul_one10 (N : Nat) (hN : N < 4294967296) (w : World) : Calls Tryz.prog 94 #[.int .u64 1, .int .u64 (N : Int)] w fun e w' => e = .returned (.tuple #[.int .u64 0, .int .u64 (N : Int)]) ∧ w' = w := by
  go_enter Tryz.func94, Tryz.ntmps94
  go_wp2_with fail
  refine (mul64_one N hN w).mono ?_
  rintro e1 w1 ⟨rfl, rfl⟩
  go_wp2
  go_ret2
  exact ⟨rfl, rfl⟩

/-- Some bytes 255 at the beginning of a block. -/
def Ffs (w : World) (G k : Nat) (C : Nat) : Prop := ∃ cur : Array Value, w.heap[G]? = some (.cells cur 5 (0, 0)) ∧ cur.size = C ∧ ∀ j, j < k → cur[j]? = some (.int .u8 255)
theorem Ffs.lt {w : World} {G k C : Nat} (h : Ffs w G k C) : G < w.heap.size := by
  obtain ⟨cur, h1, _⟩ := h
  exact (Array.getElem?_eq_some_iff.1 h1).1
theorem Ffs.cell {w : World} {G k C : Nat} (h : Ffs w G k C) {j : Nat} (hj : j < k) : w.cell? ⟨G, j, none⟩ = some (.int .u8 255) := by
  obtain ⟨cur, h1, _, h3⟩ := h
  rw [cell_of_row w G j cur 5 (0, 0) h1]
  exact h3 j hj
theorem rep_get {m j : Nat} {u : Value} (h : (List.replicate m (Value.int .u8 255))[j]? = some u) : j < m ∧ u = .int .u8 255 := by
  rw [List.getElem?_replicate] at h
  split at h
  · rename_i hj; injection h with h; exact ⟨hj, h.symm⟩
  · cases h
/-- More of them are copied behind. -/
theorem ffs_copy {w : World} {G k C : Nat} (h : Ffs w G k C) (m sG so dLen dCap sLen sCap : Nat) (ty : TypeId) (hm : m = Nat.min sLen dLen) (hfit : k + m ≤ C) (hsrc : ∀ j, j < m → w.cell? ⟨sG, so + j, none⟩ = some (.int .u8 255)) :
    ∃ w', (Builtin.copy_ #[23, 23] ty #[.slice (some ⟨G, k, none⟩) dLen dCap, .slice (some ⟨sG, so, none⟩) sLen sCap]).run Tryz.prog w = .ok (goInt m) w' ∧ Ffs w' G (k + m) C ∧ (∀ B W0, Below B W0 w → B ≤ G → Below B W0 w') := by
  obtain ⟨cur, h1, h2, h3⟩ := h
  have hl : (List.replicate m (Value.int .u8 255)).length = m := List.length_replicate
  have hrun := run_copy_row (P := Tryz.prog) w 23 23 ty 5 G k dLen dCap ⟨sG, so, none⟩ sLen sCap cur 5 (List.replicate m (.int .u8 255)) Tryz.underlying23 (by kernel_rfl) h1 (by rw [hl]; exact hm)
    (fun j u hj => by obtain ⟨e1, rfl⟩ := rep_get hj; rw [add_at]; exact hsrc j e1) (by rw [hl]; omega) (fun u hu => by obtain ⟨_, rfl⟩ := List.mem_replicate.1 hu; rfl)
  rw [hl] at hrun
  refine ⟨_, hrun, ⟨_, setRow_heap w G cur _ 5 (0, 0) h1, ?_, ?_⟩, fun B W0 hb hB => bSetRow hb hB _⟩
  · simp; omega
  · intro j hj
    rw [List.getElem?_toArray]
    have hkl : (cur.toList.take k).length = k := by simp; omega
    by_cases c : j < k
    · rw [List.append_assoc, List.getElem?_append_left (by rw [hkl]; exact c), List.getElem?_take, if_pos c]
      have := h3 j c
      simpa using this
    · rw [List.append_assoc, List.getElem?_append_right (by rw [hkl]; omega), hkl, List.getElem?_append_left (by rw [hl]; omega), List.getElem?_replicate, if_pos (by omega)]

theorem run_tail (N k : Nat) (h : k < N) (G : Nat) (W : World) : (Instr.slice 23 (.slice (some ⟨G, 0, none⟩) N N) (some (.int .i64 (k : Int))) none none).run Tryz.prog W = .ok (.slice (some ⟨G, k, none⟩) (N - k) (N - k)) W := by
  simp [Instr.slice, Instr.sliceBounds, Instr.sliceBound, asIntOf, run_underlying Tryz.underlying23, show k ≤ N by omega]
  rw [if_neg (by omega), add_at, Nat.zero_add]
theorem run_head (N k : Nat) (h : k ≤ N) (G : Nat) (W : World) : (Instr.slice 23 (.slice (some ⟨G, 0, none⟩) N N) none (some (.int .i64 (k : Int))) none).run Tryz.prog W = .ok (.slice (some ⟨G, 0, none⟩) k N) W := by
  simp [Instr.slice, Instr.sliceBounds, Instr.sliceBound, asIntOf, run_underlying Tryz.underlying23, h]
  intro _
  exact add_at G 0 0
theorem run_nn (N C : Nat) (h : N ≤ C) (G : Nat) (W : World) : (Instr.slice 23 (.slice (some ⟨G, 0, none⟩) N C) none (some (.int .i64 (N : Int))) (some (.int .i64 (N : Int)))).run Tryz.prog W = .ok (.slice (some ⟨G, 0, none⟩) N N) W := by
  simp [Instr.slice, Instr.sliceBounds, Instr.sliceBound, asIntOf, run_underlying Tryz.underlying23, h]
  intro _
  exact add_at G 0 0

theorem run_minH {P : Program} (t t' ty : TypeId) (x y : Nat) (W : World) : (Builtin.min_ #[t, t'] ty #[.int .i64 (x : Int), .int .i64 (y : Int)]).run P W = .ok (.int .i64 ((min x y : Nat) : Int)) W := by
  by_cases h : x ≤ y
  · rw [Nat.min_eq_left h]
    have h2 : ¬ (y : Int) < (x : Int) := by omega
    simp [Builtin.min_, Builtin.min2, h2]
  · have h2 : (y : Int) < (x : Int) := by omega
    rw [Nat.min_eq_right (show y ≤ x by omega)]
    simp [Builtin.min_, Builtin.min2, h2]
set_option maxRecDepth 20000 in
set_option maxHeartbeats 1000000 in
theorem repeat_ff (g : Nat) (N : Nat) (hN : N ≤ 1048576) (w : World) (hg : Row w g 5 #[.int .u8 255]) :
    Calls Tryz.prog 61 #[.slice (some ⟨g, 0, none⟩) 1 1, .int .i64 (N : Int)] w fun e w' => ∃ G C, e = .returned (.slice (some ⟨G, 0, none⟩) N N) ∧ Ffs w' G N C ∧ N ≤ C ∧ w.heap.size ≤ G ∧ Below w.heap.size w w' := by
  by_cases h0 : N = 0
  · subst h0
    go_enter Tryz.func61, Tryz.ntmps61
    go_wp2
    go_ret
    exact ⟨w.heap.size, 0, rfl, ⟨#[], heap_alloc_new w _, rfl, fun j hj => absurd hj (Nat.not_lt_zero _)⟩, Nat.le_refl _, Nat.le_refl _, (Below.refl _ w).alloc (Nat.le_refl _) _⟩
  · have hn0 : ¬ (N : Int) = 0 := by omega
    have hn0b : ((N : Int) == 0) = false := by simpa using hn0
    have hneg : ¬ ((N : Int) < 0) := by omega
    have hmax : ¬ ((N : Int) > 9223372036854775807) := by omega
    obtain ⟨cs, hrunM, hle, _⟩ := Lib.run_makeNoZero (P := Tryz.prog) w #[3] 23 5 Tryz.underlying23 N (by omega)
    have hcall : (callFunc 95 #[.int .i64 (N : Int)]).run Tryz.prog w = .ok (.value (.slice (some ⟨w.heap.size, 0, none⟩) N cs.size)) ((w.alloc (.cells cs 5)).drewN 2) := by
      rw [run_callFunc_extern Tryz.func95 (by kernel_rfl) (by kernel_rfl) (by kernel_rfl) (e := Extern.BytealgMakeNoZero.makeNoZero #[3] #[23]) (by kernel_rfl), hrunM]
      rfl
    have F0 : Ffs ((w.alloc (.cells cs 5)).drewN 2) w.heap.size 0 cs.size := ⟨cs, heap_alloc_new w _, rfl, fun j hj => absurd hj (Nat.not_lt_zero _)⟩
    have b0 : Below w.heap.size w ((w.alloc (.cells cs 5)).drewN 2) := below_drewN ((Below.refl _ w).alloc (Nat.le_refl _) _) 2
    have hgw : ((w.alloc (.cells cs 5)).drewN 2).cell? ⟨g, 0, none⟩ = some (.int .u8 255) := (b0.cell (p := ⟨g, 0, none⟩) hg.lt).trans (hg.cell 0)
    obtain ⟨w1, hcp1, F1, hb1⟩ := ffs_copy F0 1 g 0 N N 1 1 3 (by show 1 = Nat.min 1 N; simp only [Nat.min_def]; split <;> omega) (by omega) (fun j hj => by rw [show j = 0 by omega]; exact hgw)
    have b1 := hb1 _ _ b0 (Nat.le_refl _)
    have hnn := fun W => run_nn N cs.size hle w.heap.size W
    generalize cs.size = C at *
    clear hrunM hg F0 hb1 b0 hgw
    rcases Nat.lt_or_ge 8192 N with hbig | hbig
    · have hbg : (N : Int) > 8192 := by omega
      go_enter Tryz.func61, Tryz.ntmps61
      go_wp2_with fail
      refine (mul_one10 N (by omega) w).mono ?_
      rintro e1 wx ⟨rfl, rfl⟩
      go_wp2_with fail
      go_loopw [10] (fun v wr => ∃ k : Nat, 1 ≤ k ∧ k ≤ N ∧ v = .int .i64 (k : Int) ∧ Ffs wr wx.heap.size k C ∧ Below wx.heap.size wx wr)
        (fun v _ => N - (intOf v).toNat)
      case atStart => exact ⟨1, Nat.le_refl _, by omega, rfl, F1, b1⟩
      case round =>
        clear F1 b1 hcp1 hcall
        obtain ⟨k, hk1, hkN, rfl, hF, hb⟩ := hrel
        have HB := veil hb
        by_cases hlt : k < N
        · have htl := fun W => run_tail N k hlt wx.heap.size W
          rcases Nat.lt_or_ge 8192 k with ck | ck
          · have ckI : (8192 : Int) < (k : Int) := by omega
            have hhd := fun W => run_head N 8192 (by omega) wx.heap.size W
            obtain ⟨w2, hcp, F2, hb2⟩ := ffs_copy (w := wr.drew) (show Ffs wr.drew wx.heap.size k C from hF) (min 8192 (N - k)) wx.heap.size 0 (N - k) (N - k) 8192 N 3 rfl (by omega) (fun j hj => by rw [Nat.zero_add]; exact hF.cell (by omega))
            have HF2 := veil F2
            have HB2 := veil (hb2 _ _ (hb.drew) (Nat.le_refl _))
            have hpos : 1 ≤ min 8192 (N - k) := by omega
            have hub : min 8192 (N - k) ≤ N - k := by omega
            clear hF hb F2 hb2
            generalize min 8192 (N - k) = mm at *
            go_wp2_with fail
            go_region
            go_wp2
            go_roundw
            case rel => exact ⟨k + mm, by omega, by omega, by go_num, HF2.out, HB2.out⟩
            case measure => simp [intOf]; omega
          · have ckI : ¬ ((8192 : Int) < (k : Int)) := by omega
            have hhd := fun W => run_head N k (by omega) wx.heap.size W
            obtain ⟨w2, hcp, F2, hb2⟩ := ffs_copy (w := wr.drew) (show Ffs wr.drew wx.heap.size k C from hF) (min k (N - k)) wx.heap.size 0 (N - k) (N - k) k N 3 rfl (by omega) (fun j hj => by rw [Nat.zero_add]; exact hF.cell (by omega))
            have HF2 := veil F2
            have HB2 := veil (hb2 _ _ (hb.drew) (Nat.le_refl _))
            have hpos : 1 ≤ min k (N - k) := by omega
            have hub : min k (N - k) ≤ N - k := by omega
            clear hF hb F2 hb2
            generalize min k (N - k) = mm at *
            go_wp2_with fail
            go_region
            go_wp2
            go_roundw
            case rel => exact ⟨k + mm, by omega, by omega, by go_num, HF2.out, HB2.out⟩
            case measure => simp [intOf]; omega
        · obtain rfl : k = N := by omega
          clear hlt hb
          go_wp2
          go_ret
          exact ⟨_, C, rfl, hF, by omega, by omega, HB.out⟩
    · have hbg : ¬ ((N : Int) > 8192) := by omega
      go_enter Tryz.func61, Tryz.ntmps61
      go_wp2_with fail
      refine (mul_one10 N (by omega) w).mono ?_
      rintro e1 wx ⟨rfl, rfl⟩
      go_wp2_with fail
      go_loopw [10] (fun v wr => ∃ k : Nat, 1 ≤ k ∧ k ≤ N ∧ v = .int .i64 (k : Int) ∧ Ffs wr wx.heap.size k C ∧ Below wx.heap.size wx wr)
        (fun v _ => N - (intOf v).toNat)
      case atStart => exact ⟨1, Nat.le_refl _, by omega, rfl, F1, b1⟩
      case round =>
        clear F1 b1 hcp1 hcall
        obtain ⟨k, hk1, hkN, rfl, hF, hb⟩ := hrel
        have HB := veil hb
        by_cases hlt : k < N
        · have htl := fun W => run_tail N k hlt wx.heap.size W
          rcases Nat.lt_or_ge N k with ck | ck
          · have ckI : (N : Int) < (k : Int) := by omega
            have hhd := fun W => run_head N N (by omega) wx.heap.size W
            obtain ⟨w2, hcp, F2, hb2⟩ := ffs_copy (w := wr.drew) (show Ffs wr.drew wx.heap.size k C from hF) (min N (N - k)) wx.heap.size 0 (N - k) (N - k) N N 3 rfl (by omega) (fun j hj => by rw [Nat.zero_add]; exact hF.cell (by omega))
            have HF2 := veil F2
            have HB2 := veil (hb2 _ _ (hb.drew) (Nat.le_refl _))
            have hpos : 1 ≤ min N (N - k) := by omega
            have hub : min N (N - k) ≤ N - k := by omega
            clear hF hb F2 hb2
            generalize min N (N - k) = mm at *
            go_wp2_with fail
            go_region
            go_wp2
            go_roundw
            case rel => exact ⟨k + mm, by omega, by omega, by go_num, HF2.out, HB2.out⟩
            case measure => simp [intOf]; omega
          · have ckI : ¬ ((N : Int) < (k : Int)) := by omega
            have hhd := fun W => run_head N k (by omega) wx.heap.size W
            obtain ⟨w2, hcp, F2, hb2⟩ := ffs_copy (w := wr.drew) (show Ffs wr.drew wx.heap.size k C from hF) (min k (N - k)) wx.heap.size 0 (N - k) (N - k) k N 3 rfl (by omega) (fun j hj => by rw [Nat.zero_add]; exact hF.cell (by omega))
            have HF2 := veil F2
            have HB2 := veil (hb2 _ _ (hb.drew) (Nat.le_refl _))
            have hpos : 1 ≤ min k (N - k) := by omega
            have hub : min k (N - k) ≤ N - k := by omega
            clear hF hb F2 hb2
            generalize min k (N - k) = mm at *
            go_wp2_with fail
            go_region
            go_wp2
            go_roundw
            case rel => exact ⟨k + mm, by omega, by omega, by go_num, HF2.out, HB2.out⟩
            case measure => simp [intOf]; omega
        · obtain rfl : k = N := by omega
          clear hlt hb
          go_wp2
          go_ret
          exact ⟨_, C, rfl, hF, by omega, by omega, HB.out⟩
end Go.Proofs.YtiecpkkklefjdaaGreatDoor
