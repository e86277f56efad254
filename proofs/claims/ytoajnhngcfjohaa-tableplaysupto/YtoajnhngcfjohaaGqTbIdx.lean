/-
  The place of a field among several.
-/
import Derived.Test.YtoajnhngcfjohaaGqTbEq
namespace Go.Proofs.Ytoajnhngcfjohaa
open Go Go.RowKit

namespace Tb
theorem any_take_no {p : Fd → Bool} {l : List Fd} {k : Nat} (h : (l.take k).any p = false) : ∀ j x, j < k → l[j]? = some x → p x = false := by
  intro j x hj hx
  have := List.any_eq_false.1 h x (List.mem_of_getElem? (i := j) (by rw [List.getElem?_take_of_lt hj]; exact hx))
  simpa using this
theorem firstI_of_take {p : Fd → Bool} {l : List Fd} {k : Nat} {g : Fd} (h : (l.take k).any p = false) (hg : l[k]? = some g) (hp : p g = true) : firstI p l 0 = (k : Int) := by
  have := firstI_at (k := 0) hg hp (any_take_no h)
  rwa [Nat.zero_add] at this
theorem firstI_of_all {p : Fd → Bool} {l : List Fd} {k : Nat} (h : (l.take k).any p = false) (hk : l.length ≤ k) : firstI p l 0 = -1 := by
  rw [List.take_of_length_le hk] at h
  exact firstI_none fun g hg => by have := List.any_eq_false.1 h g hg; simpa using this
set_option maxRecDepth 100000 in
set_option maxHeartbeats 4000000 in
theorem tab_index (f : Fd) (l : List Fd) (n b : Nat) (T : TypeId) (hn : l.length = n) (hn1 : n ≤ 1000) (w : World) (hR : Row w b T (fds l).toArray) :
    Calls Try.prog 28 #[.slice (some ⟨b, 0, none⟩) n n, .agg f.cells] w fun e w' => e = .returned (.int .i64 (firstI (hasF f) l 0)) ∧ Below w.heap.size w w' := by
  obtain ⟨fa, fb⟩ := f
  obtain ⟨I, hI⟩ : ∃ I, firstI (hasF (fa, fb)) l 0 = I := ⟨_, rfl⟩
  rw [hI]
  have HI := veil hI
  obtain ⟨w1, hw1⟩ : ∃ w1, w.alloc (.cells #[.string fa, .string fb] 23) = w1 := ⟨_, rfl⟩
  have hB : Below w.heap.size w w1 := hw1 ▸ (Below.refl w.heap.size w).alloc (Nat.le_refl _) _
  obtain ⟨c, hc⟩ : ∃ c, w.heap.size = c := ⟨_, rfl⟩
  have hbx : Row w1 c 23 (Fd.cells (fa, fb)) := by rw [← hw1, ← hc]; exact Row.new w _ _
  have HF := veil hbx
  have HR := veil (Row.below hR hB (Row.lt hR))
  have HB := veil hB
  have HN := veil hn
  clear hI hbx hR hB hn
  show Calls Try.prog 28 #[.slice (some ⟨b, 0, none⟩) n n, .agg #[.string fa, .string fb]] w _
  go_enter Try.func28, Try.ntmps28
  go_upto_region 1 with fail
  clear hw1 hc
  go_wp2_with fail
  go_loopw [8] (fun iv wr => ∃ k : Nat, k ≤ n ∧ iv = .int .i64 k ∧ (l.take k).any (hasF (fa, fb)) = false ∧ ∃ m, wr = w1.drewN m)
    (fun iv _ => n - (intOf iv).toNat)
  case atStart => exact ⟨0, Nat.zero_le _, rfl, by simp, 0, rfl⟩
  case round =>
    obtain ⟨k, hk, rfl, hno, m, rfl⟩ := hrel
    by_cases hlt : k < n
    · obtain ⟨g, hget⟩ : ∃ g, l[k]? = some g := ⟨_, List.getElem?_eq_getElem (by rw [HN.out]; exact hlt)⟩
      have hs := fds_get2 hget
      have x0 : w1.cell? ⟨b, k * 2, none⟩ = some (.string g.1) := (HR.out.cell (k * 2)).trans (by simpa using hs.1)
      have x1 : w1.cell? ⟨b, k * 2 + 1, none⟩ = some (.string g.2) := (HR.out.cell (k * 2 + 1)).trans (by simpa using hs.2)
      have y0 : w1.cell? ⟨c, 0, none⟩ = some (.string fa) := HF.out.cell 0
      have y1 : w1.cell? ⟨c, 1, none⟩ = some (.string fb) := HF.out.cell 1
      have bk : (k : Int) < (n : Int) := by omega
      have w5 : IntKind.i64.wrap ((k : Int) + 1) = ((k + 1 : Nat) : Int) := by rw [IntKind.wrap_i64]; omega
      have HT := veil (show (l.take (k + 1)).any (hasF (fa, fb)) = hasF (fa, fb) g from by rw [List.take_add_one, hget, List.any_append, hno]; simp)
      have HG := veil hget
      have HNo := veil hno
      clear hs hget hno
      go_wp2_with fail
      cases hx : eqF (fa, fb) g
      · have hx' : hasF (fa, fb) g = false := by rw [← eqF_has]; exact hx
        have HT2 := veil (HT.out.trans hx')
        refine wp_region_quiet_lit (by kernel_rfl) (by kernel_rfl) ?_
        repeat (go_big_quiet_step (fail))
        go_big_quiet_want
        refine quiet_eqlF _ _ _ (fa, fb) g rfl rfl rfl ?_
        go_big_quiet_on
        rw [hx]
        refine wpQuiet_nil ?_
        rintro _ ⟨m2, rfl⟩
        simp only [Act.put, List.setIfInBounds_toArray, List.set_cons_succ, List.set_cons_zero]
        go_wp2_with fail
        go_roundw
        case rel => exact ⟨k + 1, by omega, by go_num, HT2.out, _, rfl⟩
        case measure => simp [intOf]; omega
      · have hx' : hasF (fa, fb) g = true := by rw [← eqF_has]; exact hx
        have HK := veil (HI.out.symm.trans (firstI_of_take HNo.out HG.out hx'))
        refine wp_region_quiet_lit (by kernel_rfl) (by kernel_rfl) ?_
        repeat (go_big_quiet_step (fail))
        go_big_quiet_want
        refine quiet_eqlF _ _ _ (fa, fb) g rfl rfl rfl ?_
        go_big_quiet_on
        rw [hx]
        refine wpQuiet_nil ?_
        rintro _ ⟨m2, rfl⟩
        simp only [Act.put, List.setIfInBounds_toArray, List.set_cons_succ, List.set_cons_zero]
        go_wp2_with fail
        go_ret
        exact ⟨by rw [HK.out]; rfl, below_drewN (below_drewN HB.out _) _⟩
    · have e : n ≤ k := by omega
      have nk : ¬ (k : Int) < (n : Int) := by omega
      have HK := veil (HI.out.symm.trans (firstI_of_all hno (by rw [HN.out]; exact e)))
      clear hno hlt
      go_wp2_with fail
      go_ret
      exact ⟨by rw [HK.out]; rfl, below_drewN HB.out _⟩
end Tb
end Go.Proofs.Ytoajnhngcfjohaa
