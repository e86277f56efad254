/-
  The program's fixed field at a place.
-/
import Derived.Test.YtoajnhngcfjohaaGqTbPf
import Derived.Test.YtoajnhngcfjohaaGq4
namespace Go.Proofs.Ytoajnhngcfjohaa
open Go Go.RowKit

namespace Tb
theorem fds_part {l : List Fd} {k : Nat} {f : Fd} (h : l[k]? = some f) : (fds l).toArray.extract (k * 2) (k * 2 + 2) = f.cells := by
  have hs := fds_get2 h
  have h0 : (fds l).toArray[k * 2]? = some (.string f.1) := by simpa using hs.1
  have h1 : (fds l).toArray[k * 2 + 1]? = some (.string f.2) := by simpa using hs.2
  have hk := (List.getElem?_eq_some_iff.1 h).1
  have hz : k * 2 + 2 ≤ (fds l).toArray.size := by simp [fds_length]; omega
  apply Array.ext_getElem?
  intro i
  rw [Array.getElem?_extract]
  match i with
  | 0 => rw [if_pos (by omega), Nat.add_zero, h0]; rfl
  | 1 => rw [if_pos (by omega), h1]; rfl
  | i + 2 => rw [if_neg (by omega)]; rfl
theorem run_indexF {X : Array Value} {k : Nat} {f : Fd} (hp : X.extract (k * 2) (k * 2 + 2) = f.cells) (hk : k < 99) (W : World) : (Instr.index 52 (.agg X) (.int .i64 (k : Int))).run Try.prog W = .ok (.agg f.cells) W := by
  have hsz : (sizeOf 23).run Try.prog W = .ok 2 W := by kernel_rfl
  simp [Instr.index, asIntOf, run_underlying Try.underlying52, hk, hsz, part, hp]
set_option maxRecDepth 100000 in
set_option maxHeartbeats 4000000 in
theorem tab_fix (i : Int) (w : World) : Calls Try.prog 7 #[.int .i64 i] w fun e w' => e = .returned (.tuple #[.agg (fixI i).cells, .bool (inB i)]) ∧ Below w.heap.size w w' := by
  obtain ⟨B, hB⟩ : ∃ B, inB i = B := ⟨_, rfl⟩
  obtain ⟨G, hG⟩ : ∃ G, fixI i = G := ⟨_, rfl⟩
  rw [hB, hG]
  by_cases h0 : 0 ≤ i ∧ i < 99
  · obtain ⟨q, rfl⟩ : ∃ q : Nat, i = (q : Int) := ⟨i.toNat, by omega⟩
    obtain ⟨g, hg⟩ : ∃ g, fixL[q]? = some g := ⟨_, List.getElem?_eq_getElem (by rw [fixL_length]; omega)⟩
    have hBB : inB (q : Int) = true := decide_eq_true h0
    have hGG : fixI (q : Int) = g := by unfold fixI; rw [if_pos hBB]; unfold gfd; rw [Int.toNat_natCast, hg]; rfl
    have e1 : B = true := by rw [← hB, hBB]
    have e2 : G = g := by rw [← hG, hGG]
    subst e1 e2
    have hix := run_indexF (fds_part hg) (by omega)
    have hfx := fun W => tab_fixed W
    generalize (fds fixL).toArray = X at hix hfx
    obtain ⟨ga, gb⟩ := G
    have hix2 : ∀ W, (Instr.index 52 (.agg X) (.int .i64 (q : Int))).run Try.prog W = .ok (.agg #[.string ga, .string gb]) W := hix
    have n0 : ¬ (q : Int) < 0 := by omega
    have n1 : (q : Int) < 99 := h0.2
    have n2 : decide ((q : Int) < 0) = false := by simp
    have n3 : decide (99 ≤ (q : Int)) = false := by simp; omega
    have HF := veil (Row.new w 23 #[.string ⟨#[]⟩, .string ⟨#[]⟩])
    have HB := veil ((Below.refl w.heap.size w).alloc (Nat.le_refl _) (.cells #[.string ⟨#[]⟩, .string ⟨#[]⟩] 23))
    clear h0 hBB hGG hg hB hG hix
    go_enter Try.func7, Try.ntmps7
    go_upto_region 3 with fail
    generalize (w.alloc (.cells #[.string ⟨#[]⟩, .string ⟨#[]⟩] 23)) = w1 at *
    go_wp2_with first
      | (go_at_call 26; refine (hfx _).mono ?_; rintro e1 w2 ⟨rfl, hb2⟩)
      | (with_reducible (show wpList _ _ _ (⟨_, Op.store 23 _ _, _, _, _, _⟩ :: _) _ _)
         refine store_row rfl 23 _ _ rfl w.heap.size #[.string ga, .string gb] rfl rfl 23 _ (Row.below HF.out hb2 (Row.lt HF.out)) 2 (by kernel_rfl) rfl rfl (by simp [Value.oneCell']) ?_)
    exact bodyPost_ret (result_twoT rfl _ _ w.heap.size _ _ ((Row.below HF.out hb2 (Row.lt HF.out)).put #[.string ga, .string gb]) 2 _ (.bool true) rfl rfl Try.underlying23 (by kernel_rfl) rfl) rfl ⟨rfl, bSetRow (HB.out.trans (hb2.mono HB.out.size)) (Nat.le_refl _) _⟩
  · have hBB : inB i = false := decide_eq_false h0
    have e1 : B = false := by rw [← hB, hBB]
    have e2 : G = fd0 := by rw [← hG]; unfold fixI; rw [if_neg (by rw [hBB]; decide)]
    subst e1 e2
    clear hBB hB hG
    by_cases h1 : i < 0
    · have n2 : decide (i < 0) = true := by simp; omega
      clear h0
      go_enter Try.func7, Try.ntmps7
      go_wp2_with fail
      exact bodyPost_ret (result_twoT rfl _ _ w.heap.size _ _ (Row.new w _ _) 2 _ (.bool false) rfl rfl Try.underlying23 (by kernel_rfl) rfl) rfl ⟨rfl, (Below.refl w.heap.size w).alloc (Nat.le_refl _) _⟩
    · have n2 : decide (i < 0) = false := by simp; omega
      have n3 : decide (99 ≤ i) = true := by simp; omega
      have n4 : 99 ≤ i := by omega
      clear h0
      go_enter Try.func7, Try.ntmps7
      go_wp2_with fail
      exact bodyPost_ret (result_twoT rfl _ _ w.heap.size _ _ (Row.new w _ _) 2 _ (.bool false) rfl rfl Try.underlying23 (by kernel_rfl) rfl) rfl ⟨rfl, (Below.refl w.heap.size w).alloc (Nat.le_refl _) _⟩
end Tb
end Go.Proofs.Ytoajnhngcfjohaa
