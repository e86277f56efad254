/-
  The document's fixed field at a place.
-/
import Derived.Test.YtoajnhngcfjohaaTbFind
namespace Go.Proofs.Ytoajnhngcfjohaa
open Go Go.RowKit

namespace Tb
theorem result_twoT {P : Program} {fn : Func} {p q : Tmp} {ty : TypeId} (h : fn.results = #[.cell p ty, .tmp q]) (tmps : Array Value) (w : World) (g : Nat) (t : TypeId) (cs : Array Value) (hg : Row w g t cs) (n : Nat) (fs : Array Field) (v : Value)
    (hp : tmps.getD p undef = .pointer (some ⟨g, 0, none⟩)) (hq : tmps.getD q undef = v) (hu : P.underlying ty = some (.struct fs)) (hi : (P.info? ty).map (·.size) = some n) (hc : cs.size = n) :
    (results fn tmps).run P w = .ok (.tuple #[.agg cs, v]) w := by
  rw [results_cell_tmp h, hp, hq]
  simp [asAddr, Result.andThen, run_loadVar_row w g t ty cs (0, 0) _ hg hu rfl (by rw [hc]; exact hi)]

def inB (i : Int) : Bool := decide (0 ≤ i ∧ i < 99)
noncomputable def fixI (i : Int) : Fd := if inB i then gfd fixL i.toNat else fd0
def z2 : Array Value := fd0.cells
set_option maxRecDepth 100000 in
set_option maxHeartbeats 4000000 in
theorem ref_fix (i : Int) (w : World) : Calls Try.prog 8 #[.int .i64 i] w fun e w' => e = .returned (.tuple #[.agg (fixI i).cells, .bool (inB i)]) ∧ Below w.heap.size w w' := by
  obtain ⟨B, hB⟩ : ∃ B, inB i = B := ⟨_, rfl⟩
  obtain ⟨G, hG⟩ : ∃ G, fixI i = G := ⟨_, rfl⟩
  rw [hB, hG]
  have HBG := veil (And.intro hB hG)
  clear hB hG
  go_enter Try.func8, Try.ntmps8
  go_wp2_with fail
  refine (ref_fixed _).mono ?_
  rintro e1 w1 ⟨rfl, hw1⟩
  have hb1 : Below w.heap.size w w1 := by
    rw [hw1]
    exact ((Below.refl w.heap.size w).alloc (Nat.le_refl _) _).alloc (by simp) _
  have hR : Row w1 (w.heap.size + 1) 23 (fds fixL).toArray := by rw [hw1]; exact Row.new1 _ _ _ _
  have hF : Row w1 w.heap.size 23 #[.string ⟨#[]⟩, .string ⟨#[]⟩] := by rw [hw1]; exact (Row.new w _ _).alloc _
  have HB := veil hb1
  have HR := veil hR
  have HF := veil hF
  have he : (w.alloc (.cells #[.string ⟨#[]⟩, .string ⟨#[]⟩] 23)).heap.size = w.heap.size + 1 := by simp
  rw [he]
  clear hb1 hR hF hw1 he
  by_cases h0 : 0 ≤ i ∧ i < 99
  · obtain ⟨q, rfl⟩ : ∃ q : Nat, i = (q : Int) := ⟨i.toNat, by omega⟩
    obtain ⟨g, hg⟩ : ∃ g, fixL[q]? = some g := ⟨_, List.getElem?_eq_getElem (by rw [fixL_length]; omega)⟩
    have hBB : inB (q : Int) = true := decide_eq_true h0
    have hGG : fixI (q : Int) = g := by unfold fixI; rw [if_pos hBB]; unfold gfd; rw [Int.toNat_natCast, hg]; rfl
    have e1 : B = true := by rw [← HBG.out.1, hBB]
    have e2 : G = g := by rw [← HBG.out.2, hGG]
    subst e1 e2
    have hs := fds_get2 hg
    have x0 : w1.cell? ⟨w.heap.size + 1, q * 2, none⟩ = some (.string G.1) := (HR.out.cell (q * 2)).trans (by simpa using hs.1)
    have x1 : w1.cell? ⟨w.heap.size + 1, q * 2 + 1, none⟩ = some (.string G.2) := (HR.out.cell (q * 2 + 1)).trans (by simpa using hs.2)
    have n0 : ¬ (q : Int) < 0 := by omega
    have n1 : (q : Int) < 99 := h0.2
    have n2 : decide ((q : Int) < 0) = false := by simp
    have n3 : decide (99 ≤ (q : Int)) = false := by simp; omega
    clear h0 hBB hGG hs hg HBG
    go_wp2_with (with_reducible (show wpList _ _ _ (⟨_, Op.store 23 _ _, _, _, _, _⟩ :: _) _ _)
                 refine store_row rfl 23 _ _ rfl w.heap.size #[.string G.1, .string G.2] rfl rfl 23 _ HF.out 2 (by kernel_rfl) rfl rfl (by simp [Value.oneCell']) ?_)
    exact bodyPost_ret (result_twoT rfl _ _ w.heap.size _ _ (HF.out.put #[.string G.1, .string G.2]) 2 _ (.bool true) rfl rfl Try.underlying23 (by kernel_rfl) rfl) rfl ⟨rfl, bSetRow HB.out (Nat.le_refl _) _⟩
  · have hBB : inB i = false := decide_eq_false h0
    have e1 : B = false := by rw [← HBG.out.1, hBB]
    have e2 : G = fd0 := by rw [← HBG.out.2]; unfold fixI; rw [if_neg (by rw [hBB]; decide)]
    subst e1 e2
    clear hBB HBG
    by_cases h1 : i < 0
    · have n2 : decide (i < 0) = true := by simp; omega
      clear h0
      go_wp2_with (with_reducible (show wpList _ _ _ (⟨_, Op.store 23 _ _, _, _, _, _⟩ :: _) _ _)
                   refine store_row rfl 23 _ _ rfl w.heap.size #[.string ⟨#[]⟩, .string ⟨#[]⟩] rfl rfl 23 _ HF.out 2 (by kernel_rfl) rfl rfl (by simp [Value.oneCell']) ?_)
      exact bodyPost_ret (result_twoT rfl _ _ w.heap.size _ _ (HF.out.put #[.string ⟨#[]⟩, .string ⟨#[]⟩]) 2 _ (.bool false) rfl rfl Try.underlying23 (by kernel_rfl) rfl) rfl ⟨rfl, bSetRow HB.out (Nat.le_refl _) _⟩
    · have n2 : decide (i < 0) = false := by simp; omega
      have n3 : decide (99 ≤ i) = true := by simp; omega
      have n4 : 99 ≤ i := by omega
      clear h0
      go_wp2_with (with_reducible (show wpList _ _ _ (⟨_, Op.store 23 _ _, _, _, _, _⟩ :: _) _ _)
                   refine store_row rfl 23 _ _ rfl w.heap.size #[.string ⟨#[]⟩, .string ⟨#[]⟩] rfl rfl 23 _ HF.out 2 (by kernel_rfl) rfl rfl (by simp [Value.oneCell']) ?_)
      exact bodyPost_ret (result_twoT rfl _ _ w.heap.size _ _ (HF.out.put #[.string ⟨#[]⟩, .string ⟨#[]⟩]) 2 _ (.bool false) rfl rfl Try.underlying23 (by kernel_rfl) rfl) rfl ⟨rfl, bSetRow HB.out (Nat.le_refl _) _⟩
end Tb
end Go.Proofs.Ytoajnhngcfjohaa
