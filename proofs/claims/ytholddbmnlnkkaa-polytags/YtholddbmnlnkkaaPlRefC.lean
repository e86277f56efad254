/-
  What mailcoachref05.carried answers.
-/
import Derived.Test.YtholddbmnlnkkaaPlRefP
namespace Go.Proofs.Ytholddbmnlnkkaa
open Go Go.RowKit

/-- A block that begins with numbers. -/
structure NOk (w : World) (g n : Nat) (xs : List Nat) : Prop where
  len : xs.length = n
  lt : g < w.heap.size
  cell : ∀ j, j < n → w.cell? ⟨g, j, none⟩ = some (.int .u64 (gn xs j : Int))
theorem NOk.below {w w' : World} {g n : Nat} {xs : List Nat} (h : NOk w g n xs) (hb : Below w.heap.size w w') : NOk w' g n xs :=
  ⟨h.len, Nat.lt_of_lt_of_le h.lt hb.size, fun j hj => (hb.cell (p := ⟨g, j, none⟩) h.lt).trans (h.cell j hj)⟩
theorem NOk.of_own {w : World} {base g n cap : Nat} {xs : List Nat} (h : w.ownsRow base 37 1 (.slice (some ⟨g, 0, none⟩) n cap) n (vn xs)) : NOk w g n xs := by
  have hl : xs.length = n := by have := h.1; rw [vn_length] at this; omega
  refine ⟨hl, ?_, fun j hj => ?_⟩
  · rcases h.2 with ⟨h1, _⟩ | ⟨g', c', cur, h1, _, h3, _⟩
    · cases h1
    · simp only [Value.slice.injEq, Option.some.injEq, Addr.mk.injEq, and_true, true_and] at h1
      obtain ⟨rfl, rfl⟩ := h1
      exact (Array.getElem?_eq_some_iff.1 h3).1
  · rw [h.cellAt j (by omega), vn_get xs j (by omega)]

set_option maxRecDepth 20000 in
set_option maxHeartbeats 1000000 in
theorem refCarried_any (g cap : Nat) (xs : List Nat) (w : World) (hx : NOk w g 34 xs) (hC : ∀ i, gn xs i ≤ 1152921504606846976) :
    Calls Try.prog 31 #[.slice (some ⟨g, 0, none⟩) 34 cap, .int .i64 34] w fun e w' => ∃ v, e = .returned v ∧ w'.ownsRow w.heap.size 37 1 v 34 (vn (dig (nV xs) 34)) ∧ Below w.heap.size w w' := by
  obtain ⟨i0, hi, hz0, hz1, hz2⟩ := info_parts (P := Try.prog) (e := 37) (z := .int .u64 0) (size := 1) (bytes := 8) (by kernel_rfl)
  have HX := veil hx
  have HC := veil hC
  clear hx hC
  go_enter Try.func31, Try.ntmps31
  go_wp2
  go_loopw [5, 6, 7] (fun v mv iv wr => ∃ (k : Nat) (a : Option Addr) (cp : Nat), k ≤ 34 ∧ iv = .int .i64 k ∧ mv = .int .u64 ((nK xs k / 256 ^ k : Nat) : Int) ∧ v = .slice a k cp ∧ wr.ownsRow w.heap.size 37 1 (.slice a k cp) k (vn (dig (nK xs k) k)) ∧ Below w.heap.size w wr)
    (fun _ _ iv _ => 34 - (intOf iv).toNat)
  case atStart => exact ⟨0, none, 0, by omega, rfl, by simp [nK], rfl, World.ownsRow_nil _ _ _ _, Below.refl _ _⟩
  case round =>
    obtain ⟨k, a2, c2, hk, rfl, rfl, rfl, hown, hbel⟩ := hrel
    have HOWN := veil hown
    have HB := veil hbel
    have hsz := hbel.size
    have HCX := veil (HX.out.below hbel)
    clear hown hbel
    by_cases hlt : k < 34
    · have hdk : decide ((k : Int) < 34) = true := by simp; omega
      have cx := HCX.out.cell k hlt
      obtain ⟨x, hxe⟩ : ∃ x, x = gn xs k := ⟨_, rfl⟩
      have hxb : x ≤ 1152921504606846976 := by rw [hxe]; exact HC.out k
      obtain ⟨m, hme⟩ : ∃ m, m = nK xs k / 256 ^ k := ⟨_, rfl⟩
      have hmb : m ≤ 1152921504606846976 := by rw [hme]; exact more_le xs _ HC.out k
      rw [← hxe] at cx
      rw [← hme]
      have HD : Hid (dig (nK xs (k + 1)) (k + 1) = dig (nK xs k) k ++ [(m + x) % 256]) := show _ = _ by rw [dig_step, hme, hxe]
      have HN : Hid (((m : Int) + (x : Int)) / 256 = ((nK xs (k + 1) / 256 ^ (k + 1) : Nat) : Int)) := show _ = _ by
        rw [more_next, ← hme, ← hxe]
        omega
      have E1 : Hid (((m : Int) + (x : Int)) % 256 = (((m + x) % 256 : Nat) : Int)) := show _ = _ by omega
      clear hxe hme
      go_wp2_with (with_reducible (show wpList _ _ _ (⟨some 27, Op.call _, _, _, _, _⟩ :: _) _ _)
                   refine wpList_append_own _ rfl _ _ 48 rfl w.heap.size 37 i0 (.int .u64 0) 1 8 Try.underlying48 hi hz0 hz1 hz2 rfl (by decide) _ k _ rfl (HOWN.out.alloc _) ⟨wr.heap.size, 0, none⟩ 1 1 [.int .u64 (((m : Int) + (x : Int)) % 256)] rfl rfl (cell_one_new _ _ _) (by simp [Value.oneCell']) (by unfold maxLen; omega) (by omega) (by simp; omega) ?_
                   intro v5 w5 hown5 hgrow5 _
                   obtain ⟨a5, c5, rfl⟩ := own_shape hown5)
      rw [HN.out]
      refine ⟨⟨k + 1, a5, c5, by omega, by go_num, rfl, rfl, ?_, (HB.out.alloc hsz _).grown hgrow5 (by simp; omega) (fun q e => ((HOWN.out.alloc (.cells #[] 37)).lt q e).1)⟩, by simp [intOf]; omega⟩
      rw [HD.out, vn_append]
      rw [E1.out] at hown5
      exact hown5
    · have hdk : decide ((k : Int) < 34) = false := by simp; omega
      obtain rfl : k = 34 := by omega
      have HE : Hid (nK xs 34 = nV xs) := show _ = _ by unfold nV; rw [HX.out.len]
      go_wp2
      go_ret
      exact ⟨_, rfl, by rw [← HE.out]; exact HOWN.out, HB.out⟩
end Go.Proofs.Ytholddbmnlnkkaa
