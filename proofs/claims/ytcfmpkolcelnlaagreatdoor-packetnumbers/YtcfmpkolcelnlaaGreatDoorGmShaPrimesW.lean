/-
  What sha.primes answers.
-/
import Derived.Test.YtcfmpkolcelnlaaGreatDoorRows
import Derived.Test.YtcfmpkolcelnlaaGreatDoorGm1
import Derived.WalkMore
namespace Go.Proofs.YtcfmpkolcelnlaaGreatDoor
open Go Go.RowKit

set_option maxRecDepth 20000 in
set_option maxHeartbeats 400000 in
theorem primes_any (w : World) :
    Calls Tryz.prog 221 #[] w fun e w' => e = .returned (.agg (ns P64)) ∧ Below w.heap.size w w' := by
  go_enter Tryz.func221, Tryz.ntmps221
  go_wp2
  go_step3
  go_wp2
  go_step3
  go_wp2
  go_loopw [2, 3] (fun cv nv wr => ∃ n c : Nat, 2 ≤ n ∧ n ≤ 312 ∧ Hid (cntB n = c) ∧ c ≤ 64 ∧ cv = .int .i64 c ∧ nv = .int .u64 n ∧ Row wr w.heap.size 299 (ns (List.replicate 64 0)) ∧ Row wr (w.heap.size + 1) 299 (ns (foundR c)) ∧ Below w.heap.size w wr)
    (fun _ nv _ => 400 - (intOf nv).toNat)
  case atStart =>
    refine ⟨2, 0, by omega, by omega, show cntB 2 = 0 by decide +kernel, by omega, rfl, rfl, (Row.new _ _ (ns (List.replicate 64 0))).alloc _, Row.new1 _ _ _ (ns (List.replicate 64 0)), ((Below.refl _ w).alloc (Nat.le_refl _) _).alloc (by simp) _⟩
  case round =>
    obtain ⟨n, c, hn2, hn, HC, hc64, rfl, rfl, r0, r1, hbel⟩ := hrel
    by_cases hlt : c < 64
    · have hn1 : n < 312 := by
        have h := (cntB_all n (by omega) hn2).2
        have := HC.out
        omega
      have HA : Hid ((comp n = true → cntB (n + 1) = cntB n) ∧ (comp n = false → cntB (n + 1) = cntB n + 1 ∧ P64[cntB n]? = some n)) := comp_all n hn1 hn2
      have hcc : (0 : Int) ≤ (c : Int) ∧ (c : Int) ≤ 64 := by omega
      have hd : decide ((c : Int) < 64) = true := by simp; omega
      go_wp2
      go_loop [13] (fun jv => ∃ j : Nat, j ≤ c ∧ jv = .int .i64 j ∧ Hid (∀ i, i < j → n % gn P64 i ≠ 0)) (fun jv => c - (intOf jv).toNat)
      case atStart => exact ⟨0, Nat.zero_le _, rfl, fun i hi => by omega⟩
      case round =>
        obtain ⟨j, hj, rfl, HN⟩ := hrel
        by_cases hjc : j < c
        · have hcx := r1.cellN (j := j) (by rw [foundR_length c hc64]; omega)
          rw [foundR_get c j hc64 hjc] at hcx
          obtain ⟨hp0, hp1⟩ := P64_bd j (by omega)
          have HY : Hid (n % gn P64 j = 0 → cntB (n + 1) = c) := fun h => by rw [(HA.out.1 (comp_yes n j (by rw [HC.out]; exact hjc) h)), HC.out]
          have HX : Hid (n % gn P64 j ≠ 0 → ∀ i, i < j + 1 → n % gn P64 i ≠ 0) := fun h i hi => by
            rcases Nat.lt_or_ge i j with h' | h'
            · exact HN.out i h'
            · rw [show i = j by omega]; exact h
          generalize gn P64 j = p at *
          have hdj : decide ((j : Int) < (c : Int)) = true := by simp; omega
          by_cases hz : n % p = 0
          · have hb : (((n : Int) % (p : Int)) == 0) = true := by rw [beq_iff_eq]; omega
            have HZ : Hid (cntB (n + 1) = c) := HY.out hz
            clear hz
            go_wp2
            go_roundw
            case rel => exact ⟨n + 1, c, by omega, by omega, HZ, hc64, rfl, by go_num, r0, r1, hbel⟩
            case measure => simp [intOf]; omega
          · have hb : (((n : Int) % (p : Int)) == 0) = false := by rw [beq_eq_false_iff_ne]; omega
            have HZ : Hid (∀ i, i < j + 1 → n % gn P64 i ≠ 0) := HX.out hz
            clear hz
            go_wp2
            go_round
            case rel => exact ⟨j + 1, by omega, by go_num, HZ⟩
            case measure => simp [intOf]; omega
        · obtain ⟨hz1, hz2⟩ := HA.out.2 (comp_no n (fun i hi => HN.out i (by have := HC.out; omega)))
          rw [HC.out] at hz1 hz2
          have HZ : Hid (cntB (n + 1) = c + 1) := hz1
          have HP : Hid ((foundR c).set c n = foundR (c + 1)) := foundR_set c n hlt hz2
          obtain ⟨v, hv⟩ : ∃ v, wr.cell? ⟨w.heap.size + 1, c, none⟩ = some v := ⟨_, r1.cellN (by rw [foundR_length c hc64]; omega)⟩
          have f1 := r1.frozen c
          clear hz1 hz2
          go_wp2
          go_roundw
          case rel =>
            refine ⟨n + 1, c + 1, by omega, by omega, HZ, by omega, by go_num, by go_num, r0.other (by show w.heap.size ≠ w.heap.size + 1; omega) _, ?_, hbel.setCell (p := ⟨w.heap.size + 1, c, none⟩) (by show w.heap.size ≤ w.heap.size + 1; omega) _⟩
            have := r1.set c (.int .u64 (n : Int))
            rw [ns_set, HP.out] at this
            exact this
          case measure => simp [intOf]; omega
    · rw [show c = 64 by omega, foundR_all] at r1
      have hd : decide ((c : Int) < 64) = false := by simp; omega
      go_wp2_with (first
        | (with_reducible (show wpList _ _ _ (⟨_, Op.load 299 _, _, _, _, _⟩ :: _) _ _)
           refine load_row rfl 299 _ rfl (w.heap.size + 1) rfl _ _ r1 64 22 Tryz.underlying299 (by kernel_rfl) (by rw [ns_size, P64_length]) ?_)
        | (with_reducible (show wpList _ _ _ (⟨_, Op.store 299 _ _, _, _, _, _⟩ :: _) _ _)
           refine store_row rfl 299 _ _ rfl w.heap.size (ns P64) rfl rfl _ _ r0 64 (by kernel_rfl) (by rw [ns_size, List.length_replicate]) (by rw [ns_size, P64_length]) (ns_one _) ?_))
      rw [Exit.noGoto_ret]
      refine bodyPost_ret (result_row rfl _ _ w.heap.size _ _ (r0.put _) 64 22 rfl Tryz.underlying299 (by kernel_rfl) (by rw [ns_size, P64_length])) rfl ⟨rfl, bSetRow hbel (Nat.le_refl _) _⟩
end Go.Proofs.YtcfmpkolcelnlaaGreatDoor
