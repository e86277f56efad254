/-
  The place of a name among several fields.
-/
import Derived.Test.YtoajnhngcfjohaaGqTbIdx
namespace Go.Proofs.Ytoajnhngcfjohaa
open Go Go.RowKit

namespace Tb
set_option maxRecDepth 100000 in
set_option maxHeartbeats 4000000 in
theorem tab_named (f g : Fd) (c : Nat) (w : World) (hF : Row w c 23 f.cells) : Calls Try.prog 30 #[.agg g.cells, .pointer (some ⟨c, 0, none⟩)] w fun e w' => e = .returned (.bool (hasN f g)) ∧ Below w.heap.size w w' := by
  obtain ⟨fa, fb⟩ := f
  obtain ⟨ga, gb⟩ := g
  have hd : hasN (fa, fb) (ga, gb) = (ga.toList == fa.toList) := rfl
  rw [hd]
  obtain ⟨w1, hw1⟩ : ∃ w1, w.alloc (.cells #[.string ga, .string gb] 23) = w1 := ⟨_, rfl⟩
  have hB : Below w.heap.size w w1 := hw1 ▸ (Below.refl w.heap.size w).alloc (Nat.le_refl _) _
  have hg : Row w1 w.heap.size 23 #[.string ga, .string gb] := by rw [← hw1]; exact Row.new w _ _
  obtain ⟨d, hc⟩ : ∃ d, w.heap.size = d := ⟨_, rfl⟩
  rw [hc] at hg
  have y0 : w1.cell? ⟨c, 0, none⟩ = some (.string fa) := (Row.below hF hB (Row.lt hF)).cell 0
  have z0 : w1.cell? ⟨d, 0, none⟩ = some (.string ga) := hg.cell 0
  have HB := veil hB
  clear hF hB hg hd
  obtain ⟨X, hX⟩ : ∃ X, (ga.toList == fa.toList) = X := ⟨_, rfl⟩
  rw [hX]
  show Calls Try.prog 30 #[.agg #[.string ga, .string gb], .pointer (some ⟨c, 0, none⟩)] w _
  go_enter Try.func30, Try.ntmps30
  go_upto_region 1 with fail
  clear hw1 hc
  go_wp2_with fail
  go_ret
  exact ⟨rfl, HB.out⟩
set_option maxRecDepth 100000 in
set_option maxHeartbeats 4000000 in
theorem tab_indexN (f : Fd) (l : List Fd) (n b c : Nat) (T : TypeId) (hn : l.length = n) (hn1 : n ≤ 1000) (w : World) (hR : Row w b T (fds l).toArray) (hF : Row w c 23 f.cells) :
    Calls Try.prog 29 #[.slice (some ⟨b, 0, none⟩) n n, .func (.func 30) #[] #[.pointer (some ⟨c, 0, none⟩)]] w fun e w' => e = .returned (.int .i64 (firstI (hasN f) l 0)) ∧ Below w.heap.size w w' := by
  obtain ⟨I, hI⟩ : ∃ I, firstI (hasN f) l 0 = I := ⟨_, rfl⟩
  rw [hI]
  have HI := veil hI
  have HR := veil hR
  have HF := veil hF
  have HN := veil hn
  clear hI hR hF hn
  go_enter Try.func29, Try.ntmps29
  go_wp2_with fail
  go_loopw [8] (fun iv wr => ∃ k : Nat, k ≤ n ∧ iv = .int .i64 k ∧ (l.take k).any (hasN f) = false ∧ Below w.heap.size w wr)
    (fun iv _ => n - (intOf iv).toNat)
  case atStart => exact ⟨0, Nat.zero_le _, rfl, by simp, Below.refl _ _⟩
  case round =>
    obtain ⟨k, hk, rfl, hno, hbel⟩ := hrel
    by_cases hlt : k < n
    · obtain ⟨g, hget⟩ : ∃ g, l[k]? = some g := ⟨_, List.getElem?_eq_getElem (by rw [HN.out]; exact hlt)⟩
      have hs := fds_get2 hget
      have hR1 := Row.below HR.out hbel (Row.lt HR.out)
      have x0 : wr.cell? ⟨b, k * 2, none⟩ = some (.string g.1) := (hR1.cell (k * 2)).trans (by simpa using hs.1)
      have x1 : wr.cell? ⟨b, k * 2 + 1, none⟩ = some (.string g.2) := (hR1.cell (k * 2 + 1)).trans (by simpa using hs.2)
      have bk : (k : Int) < (n : Int) := by omega
      have HT := veil (show (l.take (k + 1)).any (hasN f) = hasN f g from by rw [List.take_add_one, hget, List.any_append, hno]; simp)
      have HG := veil hget
      have HNo := veil hno
      have HB := veil hbel
      have PC : Calls Try.prog 30 #[.agg #[.string g.1, .string g.2], .pointer (some ⟨c, 0, none⟩)] wr fun e w' => e = .returned (.bool (hasN f g)) ∧ Below wr.heap.size wr w' := tab_named f g c wr (Row.below HF.out hbel (Row.lt HF.out))
      have PC := veil PC
      clear hs hget hno hR1 hbel
      go_wp2_with fail
      refine PC.out.mono ?_
      rintro e1 w1 ⟨rfl, hb1⟩
      have HB1 := veil (HB.out.trans (hb1.mono HB.out.size))
      clear hb1 x0 x1 PC
      cases hx : hasN f g
      · have HT2 := veil (HT.out.trans hx)
        go_wp2_with fail
        go_roundw
        case rel => exact ⟨k + 1, by omega, by go_num, HT2.out, HB1.out⟩
        case measure => simp [intOf]; omega
      · have HK := veil (HI.out.symm.trans (firstI_of_take HNo.out HG.out hx))
        go_wp2_with fail
        go_ret
        exact ⟨by rw [HK.out]; rfl, HB1.out⟩
    · have e : n ≤ k := by omega
      have nk : ¬ (k : Int) < (n : Int) := by omega
      have HK := veil (HI.out.symm.trans (firstI_of_all hno (by rw [HN.out]; exact e)))
      have HB := veil hbel
      clear hno hlt hbel
      go_wp2_with fail
      go_ret
      exact ⟨by rw [HK.out]; rfl, HB.out⟩
end Tb
end Go.Proofs.Ytoajnhngcfjohaa
