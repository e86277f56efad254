/-
  Out of HkMacF, HkRefMacF.
-/
import Derived.Test.YtlicflmpakkccaaGreatDoorGvHkMacW
import Derived.Test.YtlicflmpakkccaaGreatDoorGv21

/-! What hkdf.Mac and hkdf.Extract answer. -/
namespace Go.Proofs.YtlicflmpakkccaaGreatDoor
open Go Go.RowKit

/-- What Mac answers of a key and bytes. -/
def macFits (k b : List By) : Prop := k.length ≤ 1048576 ∧ b.length ≤ 1048512
instance (k b : List By) : Decidable (macFits k b) := by unfold macFits; infer_instance
def macA (k b : List By) : List By := if macFits k b then macK (keyL k) b else z32
def macE (k b : List By) : Int := if macFits k b then 0 else 3
theorem macA_length (k b : List By) : (macA k b).length = 32 := by
  unfold macA
  split
  · exact macK_length _ _
  · rfl

set_option maxRecDepth 20000 in
set_option maxHeartbeats 1000000 in
theorem macF_any (k b : SL) (w : World) (hk : k.Ok w) (hb : b.Ok w) :
    Calls Tryz.prog 81 #[.slice k.a k.len k.cap, .slice b.a b.len b.cap] w fun e w' => e = .returned (.tuple #[.agg (bs (macA k.b b.b)), .int .i64 (macE k.b b.b)]) ∧ Below w.heap.size w w' := by
  have HK := veil hk
  have HB := veil hb
  have hkl := hk.hb
  have hbl := hb.hb
  clear hk hb
  have b0 : Below w.heap.size w (w.alloc (.cells (bs z32) 60)) := (Below.refl _ w).alloc (Nat.le_refl _) _
  have q0 : Row (w.alloc (.cells (bs z32) 60)) w.heap.size 60 (bs z32) := Row.new _ _ _
  have hlim : ¬ macFits k.b b.b → macA k.b b.b = z32 ∧ macE k.b b.b = 3 := fun h => ⟨by unfold macA; rw [if_neg h], by unfold macE; rw [if_neg h]⟩
  have HLim := veil hlim
  clear hlim
  go_enter Tryz.func81, Tryz.ntmps81
  by_cases h1 : (1048576 : Int) < (k.len : Int)
  · obtain ⟨e1, e2⟩ := HLim.out (fun h => by have := h.1; omega)
    rw [e1, e2]
    clear e1 e2
    go_wp2_with (first
      | (with_reducible (show wpList _ _ _ (⟨_, Op.alloc 60, _, _, _, _⟩ :: _) _ _)
         refine alloc_row rfl 60 rfl (bs z32) (by kernel_rfl) ?_)
      | (with_reducible (show wpList _ _ _ (⟨_, Op.build 60 _, _, _, _, _⟩ :: _) _ _)
         refine build_row rfl 60 _ rfl (bs z32) (by kernel_rfl) ?_)
      | (with_reducible (show wpList _ _ _ (⟨_, Op.store 60 _ _, _, _, _, _⟩ :: _) _ _)
         refine store_new (w := w) rfl 60 _ _ rfl w.heap.size (bs z32) rfl rfl _ _ rfl 32 (by kernel_rfl) (by rfl) (by rfl) (bs_one _) ?_))
    exact bodyPost_ret (result_row_tmp rfl _ _ w.heap.size _ _ q0 32 5 (.int .i64 3) rfl rfl Tryz.underlying60 (by kernel_rfl) rfl) rfl ⟨rfl, b0⟩
  · by_cases h2 : (1048512 : Int) < (b.len : Int)
    · obtain ⟨e1, e2⟩ := HLim.out (fun h => by have := h.2; omega)
      rw [e1, e2]
      clear e1 e2
      go_wp2_with (first
        | (with_reducible (show wpList _ _ _ (⟨_, Op.alloc 60, _, _, _, _⟩ :: _) _ _)
           refine alloc_row rfl 60 rfl (bs z32) (by kernel_rfl) ?_)
        | (with_reducible (show wpList _ _ _ (⟨_, Op.build 60 _, _, _, _, _⟩ :: _) _ _)
           refine build_row rfl 60 _ rfl (bs z32) (by kernel_rfl) ?_)
        | (with_reducible (show wpList _ _ _ (⟨_, Op.store 60 _ _, _, _, _, _⟩ :: _) _ _)
           refine store_new (w := w) rfl 60 _ _ rfl w.heap.size (bs z32) rfl rfl _ _ rfl 32 (by kernel_rfl) (by rfl) (by rfl) (bs_one _) ?_))
      exact bodyPost_ret (result_row_tmp rfl _ _ w.heap.size _ _ q0 32 5 (.int .i64 3) rfl rfl Tryz.underlying60 (by kernel_rfl) rfl) rfl ⟨rfl, b0⟩
    · have hfit : macFits k.b b.b := ⟨by omega, by omega⟩
      have e1 : macA k.b b.b = macK (keyL k.b) b.b := by unfold macA; rw [if_pos hfit]
      have e2 : macE k.b b.b = 0 := by unfold macE; rw [if_pos hfit]
      rw [e1, e2]
      clear e1 e2 hfit HLim
      go_wp2_with (with_reducible (show wpList _ _ _ (⟨_, Op.alloc 60, _, _, _, _⟩ :: _) _ _)
                   refine alloc_row rfl 60 rfl (bs z32) (by kernel_rfl) ?_)
      refine (key_any k _ (HK.out.below' b0 (fun p => HK.out.lt p)) (by omega)).mono ?_
      rintro e1 w1 ⟨rfl, hb1⟩
      have q1 : Row w1 w.heap.size 60 (bs z32) := q0.below hb1 q0.lt
      have b1 := b0.trans (hb1.mono b0.size)
      clear hb1 q0 b0
      have hs1 := b1.size
      have hq1 := q1.lt
      go_wp2_with fail
      show Calls _ _ _ (w1.alloc (.cells (vls [b]) 22)) _
      have b2 := b1.alloc hs1 (.cells (vls [b]) 22)
      refine (mac_any (keyL k.b) (keyL_length _) w1.heap.size 0 1 1 [b] _ rfl (by decide) (fun s hs => by
        obtain rfl : s = b := by simpa using hs
        exact HB.out.below b2) (by rw [joinB_one]; omega) (by simp) (fun j s hs => new_lists w1 [b] _ _ rfl j s hs)).mono ?_
      rintro e2 w2 ⟨rfl, hb2⟩
      rw [joinB_one]
      have q2 := (q1.alloc (.cells (vls [b]) 22)).below hb2 (by simp; omega)
      have b3 := b2.trans (hb2.mono b2.size)
      have hsz : (bs (macK (keyL k.b) b.b)).size = 32 := by rw [bs_size, macK_length]
      go_wp2_with (with_reducible (show wpList _ _ _ (⟨_, Op.store 60 _ _, _, _, _, _⟩ :: _) _ _)
                   refine store_row rfl 60 _ _ rfl w.heap.size (bs (macK (keyL k.b) b.b)) rfl rfl _ _ q2 32 (by kernel_rfl) (by rfl) hsz (bs_one _) ?_)
      refine bodyPost_ret (result_row_tmp rfl _ _ w.heap.size _ _ (q2.put _) 32 5 (.int .i64 0) rfl rfl Tryz.underlying60 (by kernel_rfl) hsz) rfl ⟨rfl, bSetRow b3 (Nat.le_refl _) _⟩

set_option maxRecDepth 20000 in
set_option maxHeartbeats 1000000 in
theorem extract_any (k b : SL) (w : World) (hk : k.Ok w) (hb : b.Ok w) :
    Calls Tryz.prog 27 #[.slice k.a k.len k.cap, .slice b.a b.len b.cap] w fun e w' => e = .returned (.tuple #[.agg (bs (macA k.b b.b)), .int .i64 (macE k.b b.b)]) ∧ Below w.heap.size w w' := by
  have HK := veil hk
  have HB := veil hb
  clear hk hb
  have b0 : Below w.heap.size w (w.alloc (.cells (bs z32) 60)) := (Below.refl _ w).alloc (Nat.le_refl _) _
  have q0 : Row (w.alloc (.cells (bs z32) 60)) w.heap.size 60 (bs z32) := Row.new _ _ _
  have hsz : (bs (macA k.b b.b)).size = 32 := by rw [bs_size, macA_length]
  go_enter Tryz.func27, Tryz.ntmps27
  go_wp2_with (with_reducible (show wpList _ _ _ (⟨_, Op.alloc 60, _, _, _, _⟩ :: _) _ _)
               refine alloc_row rfl 60 rfl (bs z32) (by kernel_rfl) ?_)
  refine (macF_any k b _ (HK.out.below b0) (HB.out.below b0)).mono ?_
  rintro e1 w1 ⟨rfl, hb1⟩
  have q1 := q0.below hb1 q0.lt
  have b1 := b0.trans (hb1.mono b0.size)
  clear hb1 q0 b0
  go_wp2_with (with_reducible (show wpList _ _ _ (⟨_, Op.store 60 _ _, _, _, _, _⟩ :: _) _ _)
               refine store_row rfl 60 _ _ rfl w.heap.size (bs (macA k.b b.b)) rfl rfl _ _ q1 32 (by kernel_rfl) (by rfl) hsz (bs_one _) ?_)
  refine bodyPost_ret (result_row_tmp rfl _ _ w.heap.size _ _ (q1.put _) 32 5 (.int .i64 (macE k.b b.b)) rfl rfl Tryz.underlying60 (by kernel_rfl) hsz) rfl ⟨rfl, bSetRow b1 (Nat.le_refl _) _⟩
end Go.Proofs.YtlicflmpakkccaaGreatDoor

/-! What the document's Mac answers. -/
namespace Go.Proofs.YtlicflmpakkccaaGreatDoor
open Go Go.RowKit

set_option maxRecDepth 20000 in
set_option maxHeartbeats 1000000 in
theorem refMacF_any (k b : SL) (w : World) (hk : k.Ok w) (hb : b.Ok w) :
    Calls Tryz.prog 88 #[.slice k.a k.len k.cap, .slice b.a b.len b.cap] w fun e w' => e = .returned (.tuple #[.agg (bs (macA k.b b.b)), .int .i64 (macE k.b b.b)]) ∧ Below w.heap.size w w' := by
  have HK := veil hk
  have HB := veil hb
  have hkl := hk.hb
  have hbl := hb.hb
  clear hk hb
  have b0 : Below w.heap.size w (w.alloc (.cells (bs z32) 60)) := (Below.refl _ w).alloc (Nat.le_refl _) _
  have q0 : Row (w.alloc (.cells (bs z32) 60)) w.heap.size 60 (bs z32) := Row.new _ _ _
  have hlim : ¬ macFits k.b b.b → macA k.b b.b = z32 ∧ macE k.b b.b = 3 := fun h => ⟨by unfold macA; rw [if_neg h], by unfold macE; rw [if_neg h]⟩
  have HLim := veil hlim
  clear hlim
  go_enter Tryz.func88, Tryz.ntmps88
  by_cases h1 : (1048576 : Int) < (k.len : Int)
  · obtain ⟨e1, e2⟩ := HLim.out (fun h => by have := h.1; omega)
    rw [e1, e2]
    clear e1 e2
    go_wp2_with (first
      | (with_reducible (show wpList _ _ _ (⟨_, Op.alloc 60, _, _, _, _⟩ :: _) _ _)
         refine alloc_row rfl 60 rfl (bs z32) (by kernel_rfl) ?_)
      | (with_reducible (show wpList _ _ _ (⟨_, Op.build 60 _, _, _, _, _⟩ :: _) _ _)
         refine build_row rfl 60 _ rfl (bs z32) (by kernel_rfl) ?_)
      | (with_reducible (show wpList _ _ _ (⟨_, Op.store 60 _ _, _, _, _, _⟩ :: _) _ _)
         refine store_new (w := w) rfl 60 _ _ rfl w.heap.size (bs z32) rfl rfl _ _ rfl 32 (by kernel_rfl) (by rfl) (by rfl) (bs_one _) ?_))
    exact bodyPost_ret (result_row_tmp rfl _ _ w.heap.size _ _ q0 32 5 (.int .i64 3) rfl rfl Tryz.underlying60 (by kernel_rfl) rfl) rfl ⟨rfl, b0⟩
  · by_cases h2 : (1048512 : Int) < (b.len : Int)
    · obtain ⟨e1, e2⟩ := HLim.out (fun h => by have := h.2; omega)
      rw [e1, e2]
      clear e1 e2
      go_wp2_with (first
        | (with_reducible (show wpList _ _ _ (⟨_, Op.alloc 60, _, _, _, _⟩ :: _) _ _)
           refine alloc_row rfl 60 rfl (bs z32) (by kernel_rfl) ?_)
        | (with_reducible (show wpList _ _ _ (⟨_, Op.build 60 _, _, _, _, _⟩ :: _) _ _)
           refine build_row rfl 60 _ rfl (bs z32) (by kernel_rfl) ?_)
        | (with_reducible (show wpList _ _ _ (⟨_, Op.store 60 _ _, _, _, _, _⟩ :: _) _ _)
           refine store_new (w := w) rfl 60 _ _ rfl w.heap.size (bs z32) rfl rfl _ _ rfl 32 (by kernel_rfl) (by rfl) (by rfl) (bs_one _) ?_))
      exact bodyPost_ret (result_row_tmp rfl _ _ w.heap.size _ _ q0 32 5 (.int .i64 3) rfl rfl Tryz.underlying60 (by kernel_rfl) rfl) rfl ⟨rfl, b0⟩
    · have hfit : macFits k.b b.b := ⟨by omega, by omega⟩
      have e1 : macA k.b b.b = macK (keyL k.b) b.b := by unfold macA; rw [if_pos hfit]
      have e2 : macE k.b b.b = 0 := by unfold macE; rw [if_pos hfit]
      rw [e1, e2]
      clear e1 e2 hfit HLim
      go_wp2_with (with_reducible (show wpList _ _ _ (⟨_, Op.alloc 60, _, _, _, _⟩ :: _) _ _)
                   refine alloc_row rfl 60 rfl (bs z32) (by kernel_rfl) ?_)
      refine (refMac_any k b _ (HK.out.below b0) (HB.out.below b0) (by omega) (by omega)).mono ?_
      rintro e1 w1 ⟨rfl, hb1⟩
      have q1 := q0.below hb1 q0.lt
      have b1 := b0.trans (hb1.mono b0.size)
      clear hb1 q0 b0
      have hsz : (bs (macK (keyL k.b) b.b)).size = 32 := by rw [bs_size, macK_length]
      go_wp2_with (with_reducible (show wpList _ _ _ (⟨_, Op.store 60 _ _, _, _, _, _⟩ :: _) _ _)
                   refine store_row rfl 60 _ _ rfl w.heap.size (bs (macK (keyL k.b) b.b)) rfl rfl _ _ q1 32 (by kernel_rfl) (by rfl) hsz (bs_one _) ?_)
      refine bodyPost_ret (result_row_tmp rfl _ _ w.heap.size _ _ (q1.put _) 32 5 (.int .i64 0) rfl rfl Tryz.underlying60 (by kernel_rfl) hsz) rfl ⟨rfl, bSetRow b1 (Nat.le_refl _) _⟩
end Go.Proofs.YtlicflmpakkccaaGreatDoor
