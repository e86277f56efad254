/-
  What aead.same answers.
-/
import Derived.Test.YtffokggejbmadaaDoorGdAeLock
import Derived.BigQuiet
namespace Go.Proofs.YtffokggejbmadaaDoor
open Go Go.RowKit

def ob (x y : By) : By := x ||| y
theorem bob (x y : By) : bits .or .u8 (v8 x) (v8 y) = v8 (ob x y) := by
  rw [u8_or _ _ (v8_nn x) (by have := v8_le x; omega) (v8_nn y) (by have := v8_le y; omega), v8_nat, v8_nat]
  unfold v8 ob
  rw [BitVec.toNat_or]
theorem ob_zero (x y z : By) : ob x (xb y z) = 0 ↔ x = 0 ∧ y = z := by
  unfold ob xb
  constructor
  · intro h
    have h1 : x = 0 := by
      apply BitVec.eq_of_getLsbD_eq
      intro i hi
      have := congrArg (fun t => t.getLsbD i) h
      simp at this
      simp [this.1]
    have h2 : y ^^^ z = 0 := by rw [h1] at h; simpa using h
    refine ⟨h1, ?_⟩
    have := congrArg (· ^^^ z) h2
    simpa [BitVec.xor_assoc] using this
  · rintro ⟨rfl, rfl⟩
    simp
theorem v8_zero_iff (x : By) : (v8 x == 0) = decide (x = 0) := by
  by_cases h : x = 0
  · subst h; rfl
  · rw [decide_eq_false h]
    have : v8 x ≠ 0 := fun e => h (by
      apply BitVec.eq_of_toNat_eq
      unfold v8 at e
      have : x.toNat = 0 := by omega
      rw [this]; rfl)
    simpa using this

set_option maxRecDepth 20000 in
set_option maxHeartbeats 1000000 in
theorem same_tags (a b : List By) (ha : a.length = 16) (hb : b.length = 16) (w : World) :
    Calls Tryd.prog 18 #[.agg (bs a), .agg (bs b)] w fun e w' => e = .returned (.bool (decide (a = b))) ∧ Below w.heap.size w w' := by
  have HA := veil ha
  have HB := veil hb
  clear ha hb
  have r0 : Row ((w.alloc (.cells (bs a) 40)).alloc (.cells (bs b) 40)) w.heap.size 40 (bs a) := (Row.new _ _ _).alloc _
  have r1 : Row ((w.alloc (.cells (bs a) 40)).alloc (.cells (bs b) 40)) (w.heap.size + 1) 40 (bs b) := Row.new1 _ _ _ _
  have b0 : Below w.heap.size w ((w.alloc (.cells (bs a) 40)).alloc (.cells (bs b) 40)) := ((Below.refl _ w).alloc (Nat.le_refl _) _).alloc (by simp) _
  go_enter Tryd.func18, Tryd.ntmps18
  go_wp2
  go_loopw [5, 7] (fun ov iv wr => ∃ (k : Nat) (o : By), k ≤ 16 ∧ iv = .int .i64 k ∧ ov = .int .u8 (v8 o) ∧ Hid (o = 0 ↔ ∀ j, j < k → gb a j = gb b j) ∧ Row wr w.heap.size 40 (bs a) ∧ Row wr (w.heap.size + 1) 40 (bs b) ∧ Below w.heap.size w wr)
    (fun _ iv _ => 16 - (intOf iv).toNat)
  case atStart => exact ⟨0, 0, by omega, rfl, rfl, (show _ ↔ _ from ⟨fun _ j hj => by omega, fun _ => rfl⟩), r0, r1, b0⟩
  case round =>
    clear r0 r1 b0
    obtain ⟨k, o, hk, rfl, rfl, HO, r0, r1, hbel⟩ := hrel
    by_cases h16 : k < 16
    · have hdk : decide ((k : Int) < 16) = true := by simp; omega
      have cx := r0.cellB (j := k) (by rw [HA.out]; exact h16)
      have cy := r1.cellB (j := k) (by rw [HB.out]; exact h16)
      have h1 := bxb (gb a k) (gb b k)
      have h2 := bob o (xb (gb a k) (gb b k))
      go_wp2
      go_quiet (fail)
      go_wp2
      go_roundw
      case rel =>
        refine ⟨k + 1, ob o (xb (gb a k) (gb b k)), by omega, by go_num, rfl, ?_, r0, r1, below_drewN hbel _⟩
        show _ ↔ _
        rw [ob_zero, HO.out]
        constructor
        · rintro ⟨h1, h2⟩ j hj
          by_cases e : j = k
          · rw [e]; exact h2
          · exact h1 j (by omega)
        · intro h
          exact ⟨fun j hj => h j (by omega), h k (by omega)⟩
      case measure => simp [intOf]; omega
    · have hdk : decide ((k : Int) < 16) = false := by simp; omega
      rw [show k = 16 by omega] at HO
      have e : (v8 o == 0) = decide (a = b) := by
        rw [v8_zero_iff]
        congr 1
        rw [HO.out]
        refine propext ⟨fun h => gb_ext (by rw [HA.out, HB.out]) (fun p hp => h p (by rw [HA.out] at hp; exact hp)), fun h j _ => by rw [h]⟩
      go_wp2
      go_ret
      refine ⟨?_, hbel⟩
      rw [← e]
      rfl
end Go.Proofs.YtffokggejbmadaaDoor
