/-
  What poly.least answers.
-/
import Derived.Test.YtholddbmnlnkkaaPlSum
namespace Go.Proofs.Ytholddbmnlnkkaa
open Go Go.RowKit

theorem least_low {a : List Nat} (ha : Sm a) (i : Nat) (h0 : 1 ≤ i) (h1 : i ≤ 4) (h : gn a i < 67108863) : V5 a % PP = V5 a := by
  have b0 := ha.lt 0
  have b1 := ha.lt 1
  have b2 := ha.lt 2
  have b3 := ha.lt 3
  have b4 := ha.lt 4
  apply Nat.mod_eq_of_lt
  unfold V5 PP
  rcases (show i = 1 ∨ i = 2 ∨ i = 3 ∨ i = 4 by omega) with rfl | rfl | rfl | rfl <;> omega
theorem least_first {a : List Nat} (ha : Sm a) (h : gn a 0 < 67108859) : V5 a % PP = V5 a := by
  have b1 := ha.lt 1
  have b2 := ha.lt 2
  have b3 := ha.lt 3
  have b4 := ha.lt 4
  apply Nat.mod_eq_of_lt
  unfold V5 PP
  omega
theorem least_high {a : List Nat} (h : ∀ i, 1 ≤ i → i ≤ 4 → gn a i = 67108863) (d : Nat) (h0 : gn a 0 = d + 67108859) (hd : d < 5) : V5 [d, 0, 0, 0, 0] = V5 a % PP := by
  have e : V5 a = d + PP := by
    unfold V5 PP
    have h1 := h 1 (by omega) (by omega)
    have h2 := h 2 (by omega) (by omega)
    have h3 := h 3 (by omega) (by omega)
    have h4 := h 4 (by omega) (by omega)
    omega
  rw [e, Nat.add_mod_right, Nat.mod_eq_of_lt (by unfold PP; omega)]
  simp [V5, gn]

set_option maxRecDepth 20000 in
set_option maxHeartbeats 1000000 in
theorem least_any (a : List Nat) (ha : Sm a) (w : World) :
    Calls Try.prog 21 #[.agg (ns a)] w fun e w' => ∃ ys, e = .returned (.agg (ns ys)) ∧ Sm ys ∧ V5 ys = V5 a % PP ∧ Below w.heap.size w w' := by
  have HA := veil ha
  clear ha
  have hsz : (ns a).size = 5 := by rw [ns_size, HA.out.len]
  go_enter Try.func21, Try.ntmps21
  go_wp2
  go_loopw [7] (fun iv wr => ∃ (k : Nat), k ≤ 4 ∧ iv = .int .i64 k ∧ Hid (∀ i, 1 ≤ i → i ≤ k → gn a i = 67108863) ∧ Row wr w.heap.size 39 (ns a) ∧ Row wr (w.heap.size + 1) 39 (ns (List.replicate 5 0)) ∧ Below w.heap.size w wr)
    (fun iv _ => 4 - (intOf iv).toNat)
  case atStart => exact ⟨0, by omega, rfl, fun i h1 h2 => by omega, (Row.new _ _ _).alloc _, Row.new1 _ _ _ (ns (List.replicate 5 0)), ((Below.refl _ w).alloc (Nat.le_refl _) _).alloc (by simp) _⟩
  case round =>
    obtain ⟨k, hk, rfl, HD, r0, r1, hbel⟩ := hrel
    by_cases h4 : k < 4
    · have hdk : decide ((k : Int) < 4) = true := by simp; omega
      have cx := r0.cellN (j := 1 + k) (by rw [HA.out.len]; omega)
      obtain ⟨x, hxe⟩ : ∃ x, x = gn a (1 + k) := ⟨_, rfl⟩
      have hx26 : x < 67108864 := by rw [hxe]; exact HA.out.lt _
      rw [← hxe] at cx
      by_cases hm : x < 67108863
      · have HV : Hid (V5 a = V5 a % PP) := show _ = _ from (least_low HA.out (1 + k) (by omega) (by omega) (by rw [← hxe]; exact hm)).symm
        have hd : decide ((x : Int) < 67108863) = true := by simp; omega
        clear hxe hm
        go_wp2_with (first
          | (with_reducible (show wpList _ _ _ (⟨_, Op.load 39 _, _, _, _, _⟩ :: _) _ _)
             refine load_row rfl 39 _ rfl w.heap.size rfl _ _ r0 5 37 Try.underlying39 (by kernel_rfl) hsz ?_)
          | (with_reducible (show wpList _ _ _ (⟨_, Op.store 39 _ _, _, _, _, _⟩ :: _) _ _)
             refine store_row rfl 39 _ _ rfl (w.heap.size + 1) (ns a) rfl rfl _ _ r1 5 (by kernel_rfl) (by rw [ns_size, List.length_replicate]) hsz (ns_one _) ?_))
        refine bodyPost_ret (result_row rfl _ _ (w.heap.size + 1) _ _ (r1.put _) 5 37 rfl Try.underlying39 (by kernel_rfl) hsz) rfl ⟨a, rfl, HA.out, HV.out, bSetRow hbel (by omega) _⟩
      · have hd : decide ((x : Int) < 67108863) = false := by simp; omega
        have HD' : Hid (∀ i, 1 ≤ i → i ≤ k + 1 → gn a i = 67108863) := show ∀ i, 1 ≤ i → i ≤ k + 1 → gn a i = 67108863 from fun i h1 h2 => by
          by_cases hi : i ≤ k
          · exact HD.out i h1 hi
          · rw [show i = 1 + k by omega, ← hxe]; omega
        clear hxe hm
        go_wp2
        go_roundw
        case rel => exact ⟨k + 1, by omega, by go_num, HD', r0, r1, hbel⟩
        case measure => simp [intOf]; omega
    · have hdk : decide ((k : Int) < 4) = false := by simp; omega
      rw [show k = 4 by omega] at HD
      have cx := r0.cellN (j := 0) (by rw [HA.out.len]; omega)
      obtain ⟨x, hxe⟩ : ∃ x, x = gn a 0 := ⟨_, rfl⟩
      have hx26 : x < 67108864 := by rw [hxe]; exact HA.out.lt _
      rw [← hxe] at cx
      by_cases hm : x < 67108859
      · have HV : Hid (V5 a = V5 a % PP) := show _ = _ from (least_first HA.out (by rw [← hxe]; exact hm)).symm
        have hd : decide ((x : Int) < 67108859) = true := by simp; omega
        clear hxe hm
        go_wp2_with (first
          | (with_reducible (show wpList _ _ _ (⟨_, Op.load 39 _, _, _, _, _⟩ :: _) _ _)
             refine load_row rfl 39 _ rfl w.heap.size rfl _ _ r0 5 37 Try.underlying39 (by kernel_rfl) hsz ?_)
          | (with_reducible (show wpList _ _ _ (⟨_, Op.store 39 _ _, _, _, _, _⟩ :: _) _ _)
             refine store_row rfl 39 _ _ rfl (w.heap.size + 1) (ns a) rfl rfl _ _ r1 5 (by kernel_rfl) (by rw [ns_size, List.length_replicate]) hsz (ns_one _) ?_))
        refine bodyPost_ret (result_row rfl _ _ (w.heap.size + 1) _ _ (r1.put _) 5 37 rfl Try.underlying39 (by kernel_rfl) hsz) rfl ⟨a, rfl, HA.out, HV.out, bSetRow hbel (by omega) _⟩
      · have hd : decide ((x : Int) < 67108859) = false := by simp; omega
        obtain ⟨d, hdx⟩ : ∃ d : Nat, x = d + 67108859 := ⟨x - 67108859, by omega⟩
        have hd5 : d < 5 := by omega
        have HV : Hid (V5 [d, 0, 0, 0, 0] = V5 a % PP) := show _ = _ from least_high HD.out d (by rw [← hxe]; exact hdx) hd5
        have E1 : IntKind.u64.wrap ((x : Int) - 67108859) = (d : Int) := by rw [IntKind.wrap_u64]; omega
        clear hx26
        have HS : Hid (Sm [d, 0, 0, 0, 0]) := show Sm _ from ⟨rfl, fun i => by
          match i with
          | 0 => show d < _; omega
          | 1 => show 0 < _; decide
          | 2 => show 0 < _; decide
          | 3 => show 0 < _; decide
          | 4 => show 0 < _; decide
          | i + 5 => rw [gn_out (by simp)]; omega⟩
        clear hdx hm hxe
        iterate 40 go_step
        clear hd
        go_wp2_with (first
          | (with_reducible (show wpList _ _ _ (⟨_, Op.build 39 _, _, _, _, _⟩ :: _) _ _)
             refine build_row rfl 39 _ rfl #[.int .u64 (d : Int), .int .u64 0, .int .u64 0, .int .u64 0, .int .u64 0] (by kernel_rfl) ?_)
          | (with_reducible (show wpList _ _ _ (⟨_, Op.store 39 _ _, _, _, _, _⟩ :: _) _ _)
             refine store_row rfl 39 _ _ rfl (w.heap.size + 1) #[.int .u64 (d : Int), .int .u64 0, .int .u64 0, .int .u64 0, .int .u64 0] rfl rfl _ _ r1 5 (by kernel_rfl) (by rw [ns_size, List.length_replicate]) rfl (by simp [Value.oneCell']) ?_))
        refine bodyPost_ret (result_row rfl _ _ (w.heap.size + 1) _ _ (r1.put #[.int .u64 (d : Int), .int .u64 0, .int .u64 0, .int .u64 0, .int .u64 0]) 5 37 rfl Try.underlying39 (by kernel_rfl) rfl) rfl ⟨[d, 0, 0, 0, 0], rfl, HS.out, HV.out, bSetRow hbel (by omega) _⟩
end Go.Proofs.Ytholddbmnlnkkaa
