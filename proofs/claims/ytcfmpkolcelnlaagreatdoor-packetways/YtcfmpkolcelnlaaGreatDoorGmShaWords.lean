/-
  What sha.cubeWords and sha.squareWords answer.
-/
import Derived.Test.YtcfmpkolcelnlaaGreatDoorGmShaPrimesW
import Derived.Test.YtcfmpkolcelnlaaGreatDoorGm14
import Derived.Deep.RegionWith
import Derived.BigRegion
import Derived.Deep.DrawnRows
namespace Go.Proofs.YtcfmpkolcelnlaaGreatDoor
open Go Go.RowKit

theorem root_word (c : Nat) : (c : Int) % 4294967296 = u (BitVec.ofNat 32 c) := by
  unfold u
  rw [BitVec.toNat_ofNat]
  omega

/-- What the halving of a prime's cube root comes to. -/
theorem cube_found (j : Nat) (hj : j < 64) (r : Int) (h0 : 0 ≤ r) (h1 : tooC (gn P64 j : Int) r = false) (h2 : tooC (gn P64 j : Int) (r + 1) = true) : r % 4294967296 = u (gw KW j) := by
  obtain ⟨c, rfl⟩ := Int.eq_ofNat_of_zero_le h0
  have k1 := of_decide_eq_false h1
  have k2 := of_decide_eq_true h2
  have e1 : c * c * c ≤ gn P64 j * 79228162514264337593543950336 := by
    have : ((c * c * c : Nat) : Int) = (c : Int) * (c : Int) * (c : Int) := by simp
    omega
  have e2 : gn P64 j * 79228162514264337593543950336 < (c + 1) * (c + 1) * (c + 1) := by
    have : (((c + 1) * (c + 1) * (c + 1) : Nat) : Int) = ((c : Int) + 1) * ((c : Int) + 1) * ((c : Int) + 1) := by simp
    omega
  rw [cube_root_one j c hj e1 e2, (cubeRoots_ok j hj).2.2]
  exact root_word _
theorem square_found (j : Nat) (hj : j < 8) (r : Int) (h0 : 0 ≤ r) (h1 : tooS (gn P64 j : Int) r = false) (h2 : tooS (gn P64 j : Int) (r + 1) = true) : r % 4294967296 = u (gw HW j) := by
  obtain ⟨c, rfl⟩ := Int.eq_ofNat_of_zero_le h0
  have k1 := of_decide_eq_false h1
  have k2 := of_decide_eq_true h2
  have e1 : c * c ≤ gn P64 j * 18446744073709551616 := by
    have : ((c * c : Nat) : Int) = (c : Int) * (c : Int) := by simp
    omega
  have e2 : gn P64 j * 18446744073709551616 < (c + 1) * (c + 1) := by
    have : (((c + 1) * (c + 1) : Nat) : Int) = ((c : Int) + 1) * ((c : Int) + 1) := by simp
    omega
  rw [square_root_one j c hj e1 e2, (squareRoots_ok j hj).2.2]
  exact root_word _
theorem KW_get (k : Nat) (h : k < 64) : KW[k]? = some (gw KW k) := by unfold gw; rw [List.getElem?_eq_getElem (by rw [KW_length]; exact h)]; rfl
theorem HW_get (k : Nat) (h : k < 8) : HW[k]? = some (gw HW k) := by unfold gw; rw [List.getElem?_eq_getElem (by rw [HW_length]; exact h)]; rfl
theorem tooC_ends (j : Nat) (hj : j < 64) : tooC (gn P64 j : Int) 0 = false ∧ tooC (gn P64 j : Int) 34359738368 = true := by
  have := P64_bd j hj
  exact ⟨decide_eq_false (by omega), decide_eq_true (by omega)⟩
theorem tooS_ends (j : Nat) (hj : j < 8) : tooS (gn P64 j : Int) 0 = false ∧ tooS (gn P64 j : Int) 34359738368 = true := by
  have := P64_bd8 j hj
  exact ⟨decide_eq_false (by omega), decide_eq_true (by omega)⟩

/-- greatest, at a prime. -/
theorem cubeG (k : Nat) (hk : k < 64) (g : Nat) (w : World) (hc : w.cell? ⟨g, 0, none⟩ = some (.int .u64 (gn P64 k : Int))) :
    Calls Tryz.prog 222 #[.func (.func 223) #[] #[.pointer (some ⟨g, 0, none⟩)]] w fun e w' => ∃ r : Int, e = .returned (.int .u64 r) ∧ 0 ≤ r ∧ r < 34359738368 ∧ Hid (r % 4294967296 = u (gw KW k)) ∧ w' = w := by
  have hp := P64_bd k hk
  refine (greatestC (gn P64 k : Int) g w (by omega) (by omega) hc (tooC_ends k hk).1 (tooC_ends k hk).2).mono ?_
  rintro e w' ⟨r, rfl, h0, h1, h2, h3, rfl⟩
  exact ⟨r, rfl, h0, h1, cube_found k hk r h0 h2 h3, rfl⟩
theorem squareG (k : Nat) (hk : k < 8) (g g' : Nat) (w : World) (hr : Row w g 299 (ns P64)) (hc : w.cell? ⟨g', 0, none⟩ = some (.int .i64 (k : Int))) :
    Calls Tryz.prog 222 #[.func (.func 226) #[] #[.pointer (some ⟨g, 0, none⟩), .pointer (some ⟨g', 0, none⟩)]] w fun e w' => ∃ r : Int, e = .returned (.int .u64 r) ∧ 0 ≤ r ∧ r < 34359738368 ∧ Hid (r % 4294967296 = u (gw HW k)) ∧ w' = w := by
  refine (greatestS P64 k g g' w (by omega) P64_length hr hc (tooS_ends k hk).1 (tooS_ends k hk).2).mono ?_
  rintro e w' ⟨r, rfl, h0, h1, h2, h3, rfl⟩
  exact ⟨r, rfl, h0, h1, square_found k hk r h0 h2 h3, rfl⟩

set_option maxRecDepth 20000 in
set_option maxHeartbeats 400000 in
theorem cubeWords_any (w : World) :
    Calls Tryz.prog 211 #[] w fun e w' => e = .returned (.agg (ws KW)) ∧ Below w.heap.size w w' := by
  have hmf : ∀ (fn : Fn) (first cap : Array Value) (w : World), (Instr.makeFunc fn first cap).run Tryz.prog w = .ok (.func fn first cap) w := fun _ _ _ _ => rfl
  go_enter Tryz.func211, Tryz.ntmps211
  go_wp2_with fail
  refine (primes_any _).mono ?_
  rintro e1 w1 ⟨rfl, hb1⟩
  have q0 : Row w1 w.heap.size 286 (ws (List.replicate 64 0)) := Row.below ((Row.new _ _ (ws (List.replicate 64 0))).alloc _) hb1 (by simp; omega)
  have q1 : Row w1 (w.heap.size + 1) 286 (ws (List.replicate 64 0)) := Row.below (Row.new1 _ _ _ (ws (List.replicate 64 0))) hb1 (by simp)
  have hbel1 : Below w.heap.size w w1 := (((Below.refl _ w).alloc (Nat.le_refl _) _).alloc (by simp) _).trans (hb1.mono (by simp; omega))
  clear hb1
  go_wp2
  go_loopw [5] (fun i wr => ∃ k : Nat, k ≤ 64 ∧ i = .int .i64 k ∧ Row wr w.heap.size 286 (ws (List.replicate 64 0)) ∧ Row wr (w.heap.size + 1) 286 (ws (KW.take k ++ List.replicate (64 - k) 0)) ∧ Below w.heap.size w wr)
    (fun i _ => 64 - (intOf i).toNat)
  case atStart => exact ⟨0, by omega, rfl, q0, by simpa using q1, hbel1⟩
  case round =>
    clear q0 q1 hbel1
    obtain ⟨k, hk, rfl, r0, r1, hbel⟩ := hrel
    by_cases hlt : k < 64
    · have hix := fun W => run_index (P := Tryz.prog) 299 22 64 _ (ns P64) k _ Tryz.underlying299 Tryz.underlying22 rfl (by kernel_rfl) hlt (ns_get P64 k (by rw [P64_length]; exact hlt)) W
      have HG := hide (fill_set KW 0 k 64 KW_length hlt _ (KW_get k hlt))
      have HQ := hide (cubeG k hlt)
      obtain ⟨v, hv⟩ : ∃ v, wr.cell? ⟨w.heap.size + 1, k, none⟩ = some v := ⟨_, r1.cellW (by simp [KW_length]; omega)⟩
      have f1 := r1.frozen k
      have hl1 := r1.lt
      have hd : decide ((k : Int) < 64) = true := by simp; omega
      generalize gn P64 k = p at *
      go_wp2_with fail
      refine (HQ.out _ _ (by simp)).mono ?_
      rintro e1 w2 ⟨r, rfl, h0, h1, hf, hw⟩
      rw [hw]
      clear hw HQ hix
      go_wp2
      go_roundw
      case rel =>
        rw [hf.out]
        refine ⟨k + 1, by omega, by go_num, (r0.other (by show w.heap.size ≠ w.heap.size + 1; omega) _).alloc _, ?_, (hbel.setCell (p := ⟨w.heap.size + 1, k, none⟩) (by show w.heap.size ≤ w.heap.size + 1; omega) _).alloc (by have := hbel.size; simpa using this) _⟩
        have := r1.set k (.int .u32 (u (gw KW k)))
        rw [ws_set, HG.out] at this
        exact this.alloc _
      case measure => simp [intOf]; omega
    · have r2 : Row wr (w.heap.size + 1) 286 (ws KW) := by
        have := r1
        rw [show k = 64 by omega, List.take_of_length_le (by rw [KW_length]; exact Nat.le_refl _)] at this
        simpa using this
      clear r1
      go_wp2_with (first
        | (with_reducible (show wpList _ _ _ (⟨_, Op.load 286 _, _, _, _, _⟩ :: _) _ _)
           refine load_row rfl 286 _ rfl (w.heap.size + 1) rfl _ _ r2 64 122 Tryz.underlying286 (by kernel_rfl) (by rw [ws_size, KW_length]) ?_)
        | (with_reducible (show wpList _ _ _ (⟨_, Op.store 286 _ _, _, _, _, _⟩ :: _) _ _)
           refine store_row rfl 286 _ _ rfl w.heap.size (ws KW) rfl rfl _ _ r0 64 (by kernel_rfl) (by rw [ws_size, List.length_replicate]) (by rw [ws_size, KW_length]) (ws_one _) ?_))
      refine bodyPost_ret (result_row rfl _ _ w.heap.size _ _ (r0.put _) 64 122 rfl Tryz.underlying286 (by kernel_rfl) (by rw [ws_size, KW_length])) rfl ⟨rfl, bSetRow hbel (Nat.le_refl _) _⟩

set_option maxRecDepth 20000 in
set_option maxHeartbeats 400000 in
theorem squareWords_any (w : World) :
    Calls Tryz.prog 212 #[] w fun e w' => e = .returned (.agg (ws HW)) ∧ Below w.heap.size w w' := by
  have hmf : ∀ (fn : Fn) (first cap : Array Value) (w : World), (Instr.makeFunc fn first cap).run Tryz.prog w = .ok (.func fn first cap) w := fun _ _ _ _ => rfl
  go_enter Tryz.func212, Tryz.ntmps212
  go_wp2_with fail
  refine (primes_any _).mono ?_
  rintro e1 w1 ⟨rfl, hb1⟩
  have q0 : Row w1 w.heap.size 288 (ws (List.replicate 8 0)) := Row.below ((Row.new _ _ (ws (List.replicate 8 0))).alloc _) hb1 (by simp; omega)
  have q1 : Row w1 (w.heap.size + 1) 288 (ws (List.replicate 8 0)) := Row.below (Row.new1 _ _ _ (ws (List.replicate 8 0))) hb1 (by simp)
  have hbel1 : Below w.heap.size w w1 := (((Below.refl _ w).alloc (Nat.le_refl _) _).alloc (by simp) _).trans (hb1.mono (by simp; omega))
  have hsz : w.heap.size + 2 ≤ w1.heap.size := by have := hb1.size; simpa using this
  clear hb1
  go_wp2_with (with_reducible (show wpList _ _ _ (⟨_, Op.store 299 _ _, _, _, _, _⟩ :: _) _ _)
               refine store_new (w := w1) rfl 299 _ _ rfl w1.heap.size (ns P64) rfl rfl _ _ rfl 64 (by kernel_rfl) (by rfl) (by rw [ns_size, P64_length]) (ns_one _) ?_)
  go_loopw [5] (fun i wr => ∃ k : Nat, k ≤ 8 ∧ i = .int .i64 k ∧ Row wr w.heap.size 288 (ws (List.replicate 8 0)) ∧ Row wr (w.heap.size + 1) 288 (ws (HW.take k ++ List.replicate (8 - k) 0)) ∧ Row wr w1.heap.size 299 (ns P64) ∧ Below w.heap.size w wr)
    (fun i _ => 8 - (intOf i).toNat)
  case atStart => exact ⟨0, by omega, rfl, q0.alloc _, by simpa using q1.alloc _, Row.new _ _ _, hbel1.alloc hbel1.size _⟩
  case round =>
    clear q0 q1 hbel1
    obtain ⟨k, hk, rfl, r0, r1, r3, hbel⟩ := hrel
    by_cases hlt : k < 8
    · have HG := hide (fill_set HW 0 k 8 HW_length hlt _ (HW_get k hlt))
      have HQ := hide (squareG k hlt)
      obtain ⟨v, hv⟩ : ∃ v, wr.cell? ⟨w.heap.size + 1, k, none⟩ = some v := ⟨_, r1.cellW (by simp [HW_length]; omega)⟩
      have f1 := r1.frozen k
      have hl1 := r1.lt
      have hd : decide ((k : Int) < 8) = true := by simp; omega
      have hk0 : (0 : Int) ≤ (k : Int) ∧ (k : Int) < 8 := by omega
      go_wp2
      go_region_with (go_at_call 222; refine (HQ.out w1.heap.size wr.heap.size _ (by exact (r3.alloc _).drew) (by simp)).mono ?_; rintro e1 w2 ⟨r, rfl, h0, h1, hf, hw⟩; rw [hw]; clear hw)
      all_goals
        have hwr : IntKind.u32.wrap r = u (gw HW k) := by rw [IntKind.wrap_u32', hf.out]
        simp only [hwr]
        clear hwr
        go_wp2
        go_roundw
        case rel =>
          refine ⟨k + 1, by omega, by go_num, ((r0.other (by show w.heap.size ≠ w.heap.size + 1; omega) _).alloc _).drew, ?_, ((r3.other (by show w1.heap.size ≠ w.heap.size + 1; omega) _).alloc _).drew, ((hbel.setCell (p := ⟨w.heap.size + 1, k, none⟩) (by show w.heap.size ≤ w.heap.size + 1; omega) _).alloc (by have := hbel.size; simpa using this) _).drew⟩
          have := r1.set k (.int .u32 (u (gw HW k)))
          rw [ws_set, HG.out] at this
          exact (this.alloc _).drew
        case measure => simp [intOf]; omega
    · have r2 : Row wr (w.heap.size + 1) 288 (ws HW) := by
        have := r1
        rw [show k = 8 by omega, List.take_of_length_le (by rw [HW_length]; exact Nat.le_refl _)] at this
        simpa using this
      clear r1
      go_wp2_with (first
        | (with_reducible (show wpList _ _ _ (⟨_, Op.load 288 _, _, _, _, _⟩ :: _) _ _)
           refine load_row rfl 288 _ rfl (w.heap.size + 1) rfl _ _ r2 8 122 Tryz.underlying288 (by kernel_rfl) (by rw [ws_size, HW_length]) ?_)
        | (with_reducible (show wpList _ _ _ (⟨_, Op.store 288 _ _, _, _, _, _⟩ :: _) _ _)
           refine store_row rfl 288 _ _ rfl w.heap.size (ws HW) rfl rfl _ _ r0 8 (by kernel_rfl) (by rw [ws_size, List.length_replicate]) (by rw [ws_size, HW_length]) (ws_one _) ?_))
      refine bodyPost_ret (result_row rfl _ _ w.heap.size _ _ (r0.put _) 8 122 rfl Tryz.underlying288 (by kernel_rfl) (by rw [ws_size, HW_length])) rfl ⟨rfl, bSetRow hbel (Nat.le_refl _) _⟩
end Go.Proofs.YtcfmpkolcelnlaaGreatDoor
