/-
  What hkdf.asMacKey answers.
-/
import Derived.Test.YtlicflmpakkccaaDoorGkHkMac
namespace Go.Proofs.YtlicflmpakkccaaDoor
open Go Go.RowKit

theorem keyL_long (b : List By) (h : 64 < b.length) : keyL b = sumL b ++ zB.drop 32 := by
  unfold keyL
  rw [if_pos h]
  rfl
theorem keyL_short (b : List By) (h : ¬ 64 < b.length) : keyL b = b ++ zB.drop b.length := by
  unfold keyL zB
  rw [if_neg h, List.drop_replicate]
theorem joinB_one (q : SL) : joinB [q] = q.b := by simp [joinB]

/-- A new row of slices. -/
def vls (ls : List SL) : Array Value := (ls.map fun s => Value.slice s.a s.len s.cap).toArray
theorem new_lists (w : World) (ls : List SL) (t : TypeId) (g : Nat) (hg : g = w.heap.size) (j : Nat) (s : SL) (h : ls[j]? = some s) : (w.alloc (.cells (vls ls) t)).cell? ⟨g, 0 + j, none⟩ = some (.slice s.a s.len s.cap) := by
  subst hg
  rw [Nat.zero_add, (Row.new w t (vls ls)).cell j]
  unfold vls
  simp [h]
section
variable {P : Program} {ops : Array Oper} {Q : Exit → Act → World → Prop} {a : Act} {w : World}
/-- The beginning, at the world at hand. -/
theorem held_at {id : Nat} (hm : P.follows .mixedOrders = true) (h : wpAnyH P .any ops Q (fun _ => True) ops.size (Array.replicate ops.size false) a w.drew) : (Code.region id ops true).wp P Q a w :=
  wp_region_held hm h
end

set_option maxRecDepth 20000 in
set_option maxHeartbeats 1000000 in
theorem key_any (q : SL) (w : World) (hq : q.Ok w) (hl : q.len ≤ 1048576) :
    Calls Tryd.prog 26 #[.slice q.a q.len q.cap] w fun e w' => e = .returned (.agg (bs (keyL q.b))) ∧ Below w.heap.size w w' := by
  have HQ := veil hq
  have hkl := veil (keyL_length q.b)
  have hsz : (bs (keyL q.b)).size = 64 := by rw [bs_size, hkl.out]
  have hbl := hq.hb
  clear hq
  have b0 : Below w.heap.size w ((w.alloc (.cells (bs zB) 69)).alloc (.cells (bs zB) 69)) := ((Below.refl _ w).alloc (Nat.le_refl _) _).alloc (by simp) _
  obtain ⟨w0, hw0⟩ : ∃ w0, w0 = (w.alloc (.cells (bs zB) 69)).alloc (.cells (bs zB) 69) := ⟨_, rfl⟩
  have q0 : Row w0 w.heap.size 69 (bs zB) := by rw [hw0]; exact (Row.new _ _ _).alloc _
  have q1 : Row w0 (w.heap.size + 1) 69 (bs zB) := by rw [hw0]; exact Row.new1 _ _ _ _
  have hs0 : w0.heap.size = w.heap.size + 1 + 1 := by rw [hw0]; simp
  rw [← hw0] at b0
  go_enter Tryd.func26, Tryd.ntmps26
  by_cases hlt : (64 : Int) < (q.len : Int)
  · have HKL := veil (keyL_long q.b (by omega))
    go_wp2_with (with_reducible (show wpList _ _ _ (⟨_, Op.alloc 69, _, _, _, _⟩ :: _) _ _)
                 refine alloc_row rfl 69 rfl (bs zB) (by kernel_rfl) ?_)
    show Calls _ _ _ (((w.alloc (.cells (bs zB) 69)).alloc (.cells (bs zB) 69)).alloc (.cells (vls [q]) 24)) _
    rw [← hw0]
    refine (sumOf_any (w.heap.size + 1 + 1) 0 1 1 [q] _ rfl (by decide) (fun s hs => by
      obtain rfl : s = q := by simpa using hs
      exact (HQ.out.below b0).alloc _) (by rw [joinB_one]; omega) (by simp; omega) (fun j s hs => new_lists w0 [q] _ _ hs0.symm j s hs)).mono ?_
    rintro e1 w1 ⟨rfl, hb1⟩
    rw [joinB_one]
    have hbA : Below w0.heap.size w0 (w0.alloc (.cells (vls [q]) 24)) := (Below.refl _ w0).alloc (Nat.le_refl _) _
    have hb01 : Below w0.heap.size w0 w1 := hbA.trans (hb1.mono (by simp))
    have k0 := q0.below hb01 q0.lt
    have k1 := q1.below hb01 q1.lt
    have b1 := b0.trans (hb01.mono (by omega))
    have hs1 := hb01.size
    clear hb1 hbA hb01 q0 q1 b0
    have hsum : (bs (sumL q.b)).size = 32 := by rw [bs_size, sumL_length]
    go_wp2_with (first
      | (with_reducible (show wpList _ _ _ (⟨_, Op.alloc 44, _, _, _, _⟩ :: _) _ _)
         refine alloc_row rfl 44 rfl (bs z32) (by kernel_rfl) ?_)
      | (with_reducible (show wpList _ _ _ (⟨_, Op.store 44 (.tmp 4) _, _, _, _, _⟩ :: _) _ _)
         refine store_new (w := w1) (by rfl) 44 _ _ (by rfl) w1.heap.size (bs (sumL q.b)) (by rfl) (by rfl) 44 (bs z32) (by rfl) 32 (by kernel_rfl) (by rfl) hsum (bs_one _) ?_))
    refine held_at (by kernel_rfl) ?_
    refine H_take 0 (.slice (some ⟨w.heap.size + 1, 0, none⟩) 64 64) rfl (fun W _ => by go_simp) (by kernel_rfl) (by kernel_rfl) (by kernel_rfl) (fun _ _ _ _ h => h) rfl trivial ?_
    refine H_take 1 (.slice (some ⟨w1.heap.size, 0, none⟩) 32 32) rfl (fun W _ => by go_simp) (by kernel_rfl) (by kernel_rfl) (by kernel_rfl) (fun _ _ _ _ h => h) rfl trivial ?_
    have r4 : Row (w1.alloc (.cells (bs (sumL q.b)) 44)) w1.heap.size 44 (bs (sumL q.b)) := Row.new _ _ _
    have hs4 := rowS_ok r4
    have hsl := sumL_length q.b
    obtain ⟨w2, hc2, rk, hk2⟩ := copy_sl _ (w.heap.size + 1) _ zB 64 (rowS w1.heap.size (sumL q.b)) (k1.alloc (.cells (bs (sumL q.b)) 44)).drew rfl (hs4.same (fun _ => rfl) (Nat.le_refl _)) (by show (sumL q.b).length ≤ 64; omega)
    rw [show (rowS w1.heap.size (sumL q.b)).len = 32 from hsl, show (rowS w1.heap.size (sumL q.b)).b = sumL q.b from rfl, ← HKL.out] at rk
    refine H_one 2 (by kernel_rfl) (O_value rfl rfl _ _ (exec_copy _ _ _ _ rfl _ _ rfl rfl _ w2 (by rw [show (rowS w1.heap.size (sumL q.b)).len = 32 from hsl, show (rowS w1.heap.size (sumL q.b)).cap = 32 from hsl] at hc2; exact hc2)) ⟨trivial, ?_⟩)
    refine wpAnyH_done (by kernel_rfl) ?_ _
    have m0 := hk2.row (k0.alloc (.cells (bs (sumL q.b)) 44)).drew (by omega)
    have b2 := ((b1.alloc b1.size (.cells (bs (sumL q.b)) 44)).drew).trans (hk2.below (B := w.heap.size) (by omega) (by simp; omega))
    clear hk2 hc2 hs4 r4
    go_wp2_with (first
      | (with_reducible (show wpList _ _ _ (⟨_, Op.load 69 _, _, _, _, _⟩ :: _) _ _)
         refine load_row rfl 69 _ rfl (w.heap.size + 1) rfl _ _ rk 64 5 Tryd.underlying69 (by kernel_rfl) hsz ?_)
      | (with_reducible (show wpList _ _ _ (⟨_, Op.store 69 _ _, _, _, _, _⟩ :: _) _ _)
         refine store_row rfl 69 _ _ rfl w.heap.size (bs (keyL q.b)) rfl rfl _ _ m0 64 (by kernel_rfl) (by rfl) hsz (bs_one _) ?_))
    refine bodyPost_ret (result_row rfl _ _ w.heap.size _ _ (m0.put _) 64 5 rfl Tryd.underlying69 (by kernel_rfl) hsz) rfl ⟨rfl, bSetRow b2 (Nat.le_refl _) _⟩
  · have HKL := veil (keyL_short q.b (by omega))
    obtain ⟨w2, hc2, rk, hk2⟩ := copy_sl _ (w.heap.size + 1) _ zB 64 q q1 rfl (HQ.out.below b0) (by omega)
    rw [← hbl, ← HKL.out] at rk
    have m0 := hk2.row q0 (by omega)
    have b2 := b0.trans (hk2.below (B := w.heap.size) (by omega) (by omega))
    clear hk2
    go_wp2_with (first
      | (with_reducible (show wpList _ _ _ (⟨_, Op.alloc 69, _, _, _, _⟩ :: _) _ _)
         refine alloc_row rfl 69 rfl (bs zB) (by kernel_rfl) ?_)
      | (with_reducible (show wpList _ _ _ (⟨some 16, Op.call _, _, _, _, _⟩ :: _) _ _)
         refine wpList_copy rfl _ _ _ _ rfl _ _ rfl rfl _ w2 (by rw [hw0] at hc2; exact hc2) ?_)
      | (with_reducible (show wpList _ _ _ (⟨_, Op.load 69 _, _, _, _, _⟩ :: _) _ _)
         refine load_row rfl 69 _ rfl (w.heap.size + 1) rfl _ _ rk 64 5 Tryd.underlying69 (by kernel_rfl) hsz ?_)
      | (with_reducible (show wpList _ _ _ (⟨_, Op.store 69 _ _, _, _, _, _⟩ :: _) _ _)
         refine store_row rfl 69 _ _ rfl w.heap.size (bs (keyL q.b)) rfl rfl _ _ m0 64 (by kernel_rfl) (by rfl) hsz (bs_one _) ?_))
    refine bodyPost_ret (result_row rfl _ _ w.heap.size _ _ (m0.put _) 64 5 rfl Tryd.underlying69 (by kernel_rfl) hsz) rfl ⟨rfl, bSetRow b2 (Nat.le_refl _) _⟩
end Go.Proofs.YtlicflmpakkccaaDoor
