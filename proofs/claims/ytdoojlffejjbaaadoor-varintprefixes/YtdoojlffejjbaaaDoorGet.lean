/-
  What varint.Get and the document's Get answer.
-/
import Derived.Test.YtdoojlffejjbaaaDoorHelp
import Derived.Test.YtdoojlffejjbaaaDoorPlain
namespace Go.Proofs.YtdoojlffejjbaaaDoor
open Go.RowKit

/-- What Get answers: the number, how many bytes, the error's number. -/
def getR (zs : List Int) : Int × Nat × Int :=
  if zs.length = 0 then (0, 0, 4) else if zs.length < klen (zs[0]?.getD 0) then (0, 0, 4) else (told zs (klen (zs[0]?.getD 0) - 1), klen (zs[0]?.getD 0), 0)

/-- The array of lengths lies as its text lays it. -/
def Lens (w : World) : Prop := w.cell? ⟨0, 0, none⟩ = some (.int .i64 1) ∧ w.cell? ⟨0, 1, none⟩ = some (.int .i64 2) ∧ w.cell? ⟨0, 2, none⟩ = some (.int .i64 4) ∧ w.cell? ⟨0, 3, none⟩ = some (.int .i64 8)

set_option maxHeartbeats 400000 in
theorem get_none (a : Option Addr) (cap : Nat) (w : World) :
    Calls Tryd.prog 15 #[.slice a 0 cap] w fun e w' => e = .returned (.tuple #[.int .u64 0, .int .i64 0, .int .i64 4]) ∧ w' = w := by
  go_enter Tryd.func15, Tryd.ntmps15
  go_wp2
  go_ret3
  exact ⟨rfl, rfl⟩

theorem getR_short {zs : List Int} {z : Int} {K : Nat} (hz0 : zs[0]?.getD 0 = z) (hk : klen z = K) (h : zs.length < K) : getR zs = (0, 0, 4) := by
  unfold getR; rw [hz0, hk]; simp [h]
theorem getR_done {zs : List Int} {z : Int} {K : Nat} (hz0 : zs[0]?.getD 0 = z) (hk : klen z = K) (hp : 0 < zs.length) (h : K ≤ zs.length) : getR zs = (told zs (K - 1), K, 0) := by
  unfold getR; rw [hz0, hk, if_neg (by omega), if_neg (by omega)]

theorem tup3 {a b c a' b' c' : Int} (h1 : a = a') (h2 : b = b') (h3 : c = c') : Ending.returned (.tuple #[.int .u64 a, .int .i64 b, .int .i64 c]) = .returned (.tuple #[.int .u64 a', .int .i64 b', .int .i64 c']) := by rw [h1, h2, h3]

theorem klen_of {z : Int} {q K : Nat} (hq : z / 64 = q) (h0 : 0 ≤ z) (h : (q = 0 ∧ K = 1) ∨ (q = 1 ∧ K = 2) ∨ (q = 2 ∧ K = 4) ∨ (q = 3 ∧ K = 8)) : klen z = K := by
  unfold klen
  rcases h with ⟨rfl, rfl⟩ | ⟨rfl, rfl⟩ | ⟨rfl, rfl⟩ | ⟨rfl, rfl⟩
  · rw [if_pos (by omega)]
  · rw [if_neg (by omega), if_pos (by omega)]
  · rw [if_neg (by omega), if_neg (by omega), if_pos (by omega)]
  · rw [if_neg (by omega), if_neg (by omega), if_neg (by omega)]

set_option maxHeartbeats 400000 in
theorem get_short (q K : Nat) (hqK : (q = 0 ∧ K = 1) ∨ (q = 1 ∧ K = 2) ∨ (q = 2 ∧ K = 4) ∨ (q = 3 ∧ K = 8)) (b off len cap : Nat) (z : Int) (w : World) (hq : z / 64 = q) (hl : len ≤ 1073741824) (hp : 0 < len) (hs : len < K)
    (hc0 : w.cell? ⟨b, off, none⟩ = some (.int .u8 z)) (_hb0 : 0 ≤ z ∧ z ≤ 255) (hL : Lens w) :
    Calls Tryd.prog 15 #[.slice (some ⟨b, off, none⟩) len cap] w fun e w' => e = .returned (.tuple #[.int .u64 0, .int .i64 0, .int .i64 4]) ∧ w' = w := by
  obtain ⟨l0, l1, l2, l3⟩ := hL
  have hne : ((len : Int) == 0) = false := by simp; omega
  rcases hqK with ⟨rfl, rfl⟩ | ⟨rfl, rfl⟩ | ⟨rfl, rfl⟩ | ⟨rfl, rfl⟩
  · omega
  all_goals
    go_enter Tryd.func15, Tryd.ntmps15
    go_wp2
    go_ret3
    exact ⟨rfl, rfl⟩

set_option maxHeartbeats 1000000 in
theorem get_whole (q K : Nat) (hqK : (q = 0 ∧ K = 1) ∨ (q = 1 ∧ K = 2) ∨ (q = 2 ∧ K = 4) ∨ (q = 3 ∧ K = 8)) (b off len cap : Nat) (zs : List Int) (z : Int) (w : World) (hz0 : zs[0]?.getD 0 = z) (hq : z / 64 = q) (hz : zs.length = len) (hl : len ≤ 1073741824) (hcap : len ≤ cap) (hs : K ≤ len)
    (hc : ∀ j : Nat, j < len → w.cell? ⟨b, off + j, none⟩ = some (.int .u8 (zs[j]?.getD 0))) (hb : ∀ j : Nat, 0 ≤ zs[j]?.getD 0 ∧ zs[j]?.getD 0 ≤ 255) (hL : Lens w) :
    Calls Tryd.prog 15 #[.slice (some ⟨b, off, none⟩) len cap] w fun e w' => e = .returned (.tuple #[.int .u64 (told zs (K - 1)), .int .i64 K, .int .i64 0]) ∧ w' = w := by
  have hp : 0 < len := by omega
  have hc0 : w.cell? ⟨b, off, none⟩ = some (.int .u8 z) := by rw [← hz0]; exact hc 0 hp
  have HB := fun (i : Nat) (hi : i ≤ 7) => told_bound zs i hi hb
  have HS := fun (i : Nat) (hi : i + 1 < len) => told_succ zs i (by rw [hz]; exact hi)
  have H0 : Hid (told zs 0 = z % 64) := by rw [← hz0]; exact told_zero zs
  obtain ⟨l0, l1, l2, l3⟩ := hL
  have hb0 : 0 ≤ z ∧ z ≤ 255 := by rw [← hz0]; exact hb 0
  have hne : ((len : Int) == 0) = false := by simp; omega
  have hm := mask63 _ hb0.1 hb0.2
  clear hz hz0
  rcases hqK with ⟨rfl, rfl⟩ | ⟨rfl, rfl⟩ | ⟨rfl, rfl⟩ | ⟨rfl, rfl⟩
  · by_cases hc1 : cap = 1
    all_goals
      go_enter Tryd.func15, Tryd.ntmps15
      go_wp2
      refine wp_loop_rounds 1 ?_
      rw [rounds_succ]
      go_wp2
      go_ret3
      exact ⟨tup3 H0.out.symm rfl rfl, rfl⟩
  · go_enter Tryd.func15, Tryd.ntmps15
    go_wp2
    go_loop [6, 31] (fun n i => ∃ k : Nat, k ≤ 1 ∧ i = .int .i64 k ∧ n = .int .u64 (told zs k)) (fun _ i => 1 - (intOf i).toNat)
    case atStart => exact ⟨0, by omega, rfl, by rw [H0.out]⟩
    case round =>
      obtain ⟨k, hk, rfl, rfl⟩ := hrel
      have hbd := HB k (by omega)
      by_cases hlt : k < 1
      · have hcx : w.cell? ⟨b, off + 1 + k, none⟩ = some (.int .u8 (zs[k + 1]?.getD 0)) := by have := hc (k + 1) (by omega); rw [show off + (k + 1) = off + 1 + k by omega] at this; exact this
        have hbk := hb (k + 1)
        have hlow : told zs k < 72057594037927936 := told_low zs k (by omega) hb
        have hj := join8 (told zs k) (zs[k + 1]?.getD 0) hbd.1 hlow hbk.1 hbk.2
        have hsn : Hid (told zs (k + 1) = 256 * told zs k + zs[k + 1]?.getD 0) := HS k (by omega)
        generalize told zs k = n at *
        generalize zs[k + 1]?.getD 0 = c at *
        clear HB HS hb hc H0
        go_wp2
        go_round
        case rel => exact ⟨k + 1, by omega, by go_num, by rw [hsn.out]⟩
        case measure => simp [intOf]; omega
      · have hkl : k = 1 := by omega
        subst hkl
        clear HB HS hb hc H0
        go_wp2
        go_ret3
        exact ⟨rfl, rfl⟩
  · go_enter Tryd.func15, Tryd.ntmps15
    go_wp2
    go_loop [6, 31] (fun n i => ∃ k : Nat, k ≤ 3 ∧ i = .int .i64 k ∧ n = .int .u64 (told zs k)) (fun _ i => 3 - (intOf i).toNat)
    case atStart => exact ⟨0, by omega, rfl, by rw [H0.out]⟩
    case round =>
      obtain ⟨k, hk, rfl, rfl⟩ := hrel
      have hbd := HB k (by omega)
      by_cases hlt : k < 3
      · have hcx : w.cell? ⟨b, off + 1 + k, none⟩ = some (.int .u8 (zs[k + 1]?.getD 0)) := by have := hc (k + 1) (by omega); rw [show off + (k + 1) = off + 1 + k by omega] at this; exact this
        have hbk := hb (k + 1)
        have hlow : told zs k < 72057594037927936 := told_low zs k (by omega) hb
        have hj := join8 (told zs k) (zs[k + 1]?.getD 0) hbd.1 hlow hbk.1 hbk.2
        have hsn : Hid (told zs (k + 1) = 256 * told zs k + zs[k + 1]?.getD 0) := HS k (by omega)
        generalize told zs k = n at *
        generalize zs[k + 1]?.getD 0 = c at *
        clear HB HS hb hc H0
        go_wp2
        go_round
        case rel => exact ⟨k + 1, by omega, by go_num, by rw [hsn.out]⟩
        case measure => simp [intOf]; omega
      · have hkl : k = 3 := by omega
        subst hkl
        clear HB HS hb hc H0
        go_wp2
        go_ret3
        exact ⟨rfl, rfl⟩
  · go_enter Tryd.func15, Tryd.ntmps15
    go_wp2
    go_loop [6, 31] (fun n i => ∃ k : Nat, k ≤ 7 ∧ i = .int .i64 k ∧ n = .int .u64 (told zs k)) (fun _ i => 7 - (intOf i).toNat)
    case atStart => exact ⟨0, by omega, rfl, by rw [H0.out]⟩
    case round =>
      obtain ⟨k, hk, rfl, rfl⟩ := hrel
      have hbd := HB k (by omega)
      by_cases hlt : k < 7
      · have hcx : w.cell? ⟨b, off + 1 + k, none⟩ = some (.int .u8 (zs[k + 1]?.getD 0)) := by have := hc (k + 1) (by omega); rw [show off + (k + 1) = off + 1 + k by omega] at this; exact this
        have hbk := hb (k + 1)
        have hlow : told zs k < 72057594037927936 := told_low zs k (by omega) hb
        have hj := join8 (told zs k) (zs[k + 1]?.getD 0) hbd.1 hlow hbk.1 hbk.2
        have hsn : Hid (told zs (k + 1) = 256 * told zs k + zs[k + 1]?.getD 0) := HS k (by omega)
        generalize told zs k = n at *
        generalize zs[k + 1]?.getD 0 = c at *
        clear HB HS hb hc H0
        go_wp2
        go_round
        case rel => exact ⟨k + 1, by omega, by go_num, by rw [hsn.out]⟩
        case measure => simp [intOf]; omega
      · have hkl : k = 7 := by omega
        subst hkl
        clear HB HS hb hc H0
        go_wp2
        go_ret3
        exact ⟨rfl, rfl⟩

set_option maxHeartbeats 400000 in
theorem refget_none (a : Option Addr) (cap : Nat) (w : World) :
    Calls Tryd.prog 16 #[.slice a 0 cap] w fun e w' => e = .returned (.tuple #[.int .u64 0, .int .i64 0, .int .i64 4]) ∧ w' = w := by
  go_enter Tryd.func16, Tryd.ntmps16
  go_wp2
  go_ret3
  exact ⟨rfl, rfl⟩

set_option maxHeartbeats 1000000 in
theorem refget_short (q K : Nat) (hqK : (q = 0 ∧ K = 1) ∨ (q = 1 ∧ K = 2) ∨ (q = 2 ∧ K = 4) ∨ (q = 3 ∧ K = 8)) (b off len cap : Nat) (z : Int) (w : World) (hq : z / 64 = q) (hl : len ≤ 1073741824) (hp : 0 < len) (hs : len < K)
    (hc0 : w.cell? ⟨b, off, none⟩ = some (.int .u8 z)) (_hb0 : 0 ≤ z ∧ z ≤ 255) :
    Calls Tryd.prog 16 #[.slice (some ⟨b, off, none⟩) len cap] w fun e w' => e = .returned (.tuple #[.int .u64 0, .int .i64 0, .int .i64 4]) ∧ w' = w := by
  have hne : ((len : Int) == 0) = false := by simp; omega
  rcases hqK with ⟨rfl, rfl⟩ | ⟨rfl, rfl⟩ | ⟨rfl, rfl⟩ | ⟨rfl, rfl⟩
  · omega
  · go_enter Tryd.func16, Tryd.ntmps16
    go_wp2
    refine wp_loop_rounds 2 ?_
    rw [rounds_succ]
    go_wp2
    rw [rounds_succ]
    go_wp2
    go_ret3
    exact ⟨rfl, rfl⟩
  · go_enter Tryd.func16, Tryd.ntmps16
    go_wp2
    refine wp_loop_rounds 3 ?_
    rw [rounds_succ]
    go_wp2
    rw [rounds_succ]
    go_wp2
    rw [rounds_succ]
    go_wp2
    go_ret3
    exact ⟨rfl, rfl⟩
  · go_enter Tryd.func16, Tryd.ntmps16
    go_wp2
    refine wp_loop_rounds 4 ?_
    rw [rounds_succ]
    go_wp2
    rw [rounds_succ]
    go_wp2
    rw [rounds_succ]
    go_wp2
    rw [rounds_succ]
    go_wp2
    go_ret3
    exact ⟨rfl, rfl⟩

set_option maxHeartbeats 2000000 in
theorem refget_whole (q K : Nat) (hqK : (q = 0 ∧ K = 1) ∨ (q = 1 ∧ K = 2) ∨ (q = 2 ∧ K = 4) ∨ (q = 3 ∧ K = 8)) (b off len cap : Nat) (zs : List Int) (z : Int) (w : World) (hz0 : zs[0]?.getD 0 = z) (hq : z / 64 = q) (hz : zs.length = len) (hl : len ≤ 1073741824) (hs : K ≤ len)
    (hc : ∀ j : Nat, j < len → w.cell? ⟨b, off + j, none⟩ = some (.int .u8 (zs[j]?.getD 0))) (hb : ∀ j : Nat, 0 ≤ zs[j]?.getD 0 ∧ zs[j]?.getD 0 ≤ 255) :
    Calls Tryd.prog 16 #[.slice (some ⟨b, off, none⟩) len cap] w fun e w' => e = .returned (.tuple #[.int .u64 (told zs (K - 1)), .int .i64 K, .int .i64 0]) ∧ w' = w := by
  have hp : 0 < len := by omega
  have hc0 : w.cell? ⟨b, off, none⟩ = some (.int .u8 z) := by rw [← hz0]; exact hc 0 hp
  have HB := fun (i : Nat) (hi : i ≤ 7) => told_bound zs i hi hb
  have HS := fun (i : Nat) (hi : i + 1 < len) => told_succ zs i (by rw [hz]; exact hi)
  have H0 : Hid (told zs 0 = z % 64) := by rw [← hz0]; exact told_zero zs
  have hb0 : 0 ≤ z ∧ z ≤ 255 := by rw [← hz0]; exact hb 0
  have hne : ((len : Int) == 0) = false := by simp; omega
  have hm := mask63 _ hb0.1 hb0.2
  clear hz hz0
  rcases hqK with ⟨rfl, rfl⟩ | ⟨rfl, rfl⟩ | ⟨rfl, rfl⟩ | ⟨rfl, rfl⟩
  · go_enter Tryd.func16, Tryd.ntmps16
    go_wp2
    refine wp_loop_rounds 1 ?_
    rw [rounds_succ]
    go_wp2
    go_loop [7, 8] (fun n i => ∃ k : Nat, k ≤ 0 ∧ i = .int .i64 (k + 1 : Nat) ∧ n = .int .u64 (told zs k)) (fun _ i => 1 - (intOf i).toNat)
    case atStart => exact ⟨0, by omega, rfl, by rw [H0.out]⟩
    case round =>
      obtain ⟨k, hk, rfl, rfl⟩ := hrel
      have hbd := HB k (by omega)
      by_cases hlt : k < 0
      · omega
      · have hkl : k = 0 := by omega
        subst hkl
        clear HB HS hb hc H0
        go_wp2
        go_ret3
        exact ⟨rfl, rfl⟩
  · go_enter Tryd.func16, Tryd.ntmps16
    go_wp2
    refine wp_loop_rounds 2 ?_
    rw [rounds_succ]
    go_wp2
    rw [rounds_succ]
    go_wp2
    go_loop [7, 8] (fun n i => ∃ k : Nat, k ≤ 1 ∧ i = .int .i64 (k + 1 : Nat) ∧ n = .int .u64 (told zs k)) (fun _ i => 2 - (intOf i).toNat)
    case atStart => exact ⟨0, by omega, rfl, by rw [H0.out]⟩
    case round =>
      obtain ⟨k, hk, rfl, rfl⟩ := hrel
      have hbd := HB k (by omega)
      by_cases hlt : k < 1
      · have hcx : w.cell? ⟨b, off + (k + 1), none⟩ = some (.int .u8 (zs[k + 1]?.getD 0)) := hc (k + 1) (by omega)
        have hbk := hb (k + 1)
        have hlow : told zs k < 72057594037927936 := told_low zs k (by omega) hb
        have hsn : Hid (told zs (k + 1) = 256 * told zs k + zs[k + 1]?.getD 0) := HS k (by omega)
        generalize told zs k = n at *
        generalize zs[k + 1]?.getD 0 = c at *
        clear HB HS hb hc H0
        go_wp2
        go_round
        case rel => exact ⟨k + 1, by omega, by go_num, by rw [hsn.out]⟩
        case measure => simp [intOf]; omega
      · have hkl : k = 1 := by omega
        subst hkl
        clear HB HS hb hc H0
        go_wp2
        go_ret3
        exact ⟨rfl, rfl⟩
  · go_enter Tryd.func16, Tryd.ntmps16
    go_wp2
    refine wp_loop_rounds 3 ?_
    rw [rounds_succ]
    go_wp2
    rw [rounds_succ]
    go_wp2
    rw [rounds_succ]
    go_wp2
    go_loop [7, 8] (fun n i => ∃ k : Nat, k ≤ 3 ∧ i = .int .i64 (k + 1 : Nat) ∧ n = .int .u64 (told zs k)) (fun _ i => 4 - (intOf i).toNat)
    case atStart => exact ⟨0, by omega, rfl, by rw [H0.out]⟩
    case round =>
      obtain ⟨k, hk, rfl, rfl⟩ := hrel
      have hbd := HB k (by omega)
      by_cases hlt : k < 3
      · have hcx : w.cell? ⟨b, off + (k + 1), none⟩ = some (.int .u8 (zs[k + 1]?.getD 0)) := hc (k + 1) (by omega)
        have hbk := hb (k + 1)
        have hlow : told zs k < 72057594037927936 := told_low zs k (by omega) hb
        have hsn : Hid (told zs (k + 1) = 256 * told zs k + zs[k + 1]?.getD 0) := HS k (by omega)
        generalize told zs k = n at *
        generalize zs[k + 1]?.getD 0 = c at *
        clear HB HS hb hc H0
        go_wp2
        go_round
        case rel => exact ⟨k + 1, by omega, by go_num, by rw [hsn.out]⟩
        case measure => simp [intOf]; omega
      · have hkl : k = 3 := by omega
        subst hkl
        clear HB HS hb hc H0
        go_wp2
        go_ret3
        exact ⟨rfl, rfl⟩
  · go_enter Tryd.func16, Tryd.ntmps16
    go_wp2
    refine wp_loop_rounds 4 ?_
    rw [rounds_succ]
    go_wp2
    rw [rounds_succ]
    go_wp2
    rw [rounds_succ]
    go_wp2
    rw [rounds_succ]
    go_wp2
    go_loop [7, 8] (fun n i => ∃ k : Nat, k ≤ 7 ∧ i = .int .i64 (k + 1 : Nat) ∧ n = .int .u64 (told zs k)) (fun _ i => 8 - (intOf i).toNat)
    case atStart => exact ⟨0, by omega, rfl, by rw [H0.out]⟩
    case round =>
      obtain ⟨k, hk, rfl, rfl⟩ := hrel
      have hbd := HB k (by omega)
      by_cases hlt : k < 7
      · have hcx : w.cell? ⟨b, off + (k + 1), none⟩ = some (.int .u8 (zs[k + 1]?.getD 0)) := hc (k + 1) (by omega)
        have hbk := hb (k + 1)
        have hlow : told zs k < 72057594037927936 := told_low zs k (by omega) hb
        have hsn : Hid (told zs (k + 1) = 256 * told zs k + zs[k + 1]?.getD 0) := HS k (by omega)
        generalize told zs k = n at *
        generalize zs[k + 1]?.getD 0 = c at *
        clear HB HS hb hc H0
        go_wp2
        go_round
        case rel => exact ⟨k + 1, by omega, by go_num, by rw [hsn.out]⟩
        case measure => simp [intOf]; omega
      · have hkl : k = 7 := by omega
        subst hkl
        clear HB HS hb hc H0
        go_wp2
        go_ret3
        exact ⟨rfl, rfl⟩

theorem kinds (z : Int) (h0 : 0 ≤ z) (h1 : z ≤ 255) : ∃ q K : Nat, z / 64 = q ∧ ((q = 0 ∧ K = 1) ∨ (q = 1 ∧ K = 2) ∨ (q = 2 ∧ K = 4) ∨ (q = 3 ∧ K = 8)) := by
  rcases (show z / 64 = 0 ∨ z / 64 = 1 ∨ z / 64 = 2 ∨ z / 64 = 3 by omega) with h | h | h | h
  · exact ⟨0, 1, h, by omega⟩
  · exact ⟨1, 2, h, by omega⟩
  · exact ⟨2, 4, h, by omega⟩
  · exact ⟨3, 8, h, by omega⟩

/-- What Get answers, as a value. -/
def getV (zs : List Int) : Value := .tuple #[.int .u64 (getR zs).1, .int .i64 (getR zs).2.1, .int .i64 (getR zs).2.2]

theorem getV_none {zs : List Int} (h : zs.length = 0) : getV zs = .tuple #[.int .u64 0, .int .i64 0, .int .i64 4] := by
  unfold getV getR; rw [if_pos h]; rfl
theorem getV_short {zs : List Int} {z : Int} {K : Nat} (hz0 : zs[0]?.getD 0 = z) (hk : klen z = K) (h : zs.length < K) : getV zs = .tuple #[.int .u64 0, .int .i64 0, .int .i64 4] := by
  unfold getV; rw [getR_short hz0 hk h]; rfl
theorem getV_done {zs : List Int} {z : Int} {K : Nat} (hz0 : zs[0]?.getD 0 = z) (hk : klen z = K) (hp : 0 < zs.length) (h : K ≤ zs.length) : getV zs = .tuple #[.int .u64 (told zs (K - 1)), .int .i64 K, .int .i64 0] := by
  unfold getV; rw [getR_done hz0 hk hp h]

/-- varint.Get, at any bytes. -/
theorem get_any (a : Option Addr) (len cap : Nat) (zs : List Int) (w : World) (hz : zs.length = len) (hl : len ≤ 1073741824) (hcap : len ≤ cap) (hLies : Lies w a zs) (hb : ∀ j : Nat, 0 ≤ zs[j]?.getD 0 ∧ zs[j]?.getD 0 ≤ 255) (hL : Lens w) :
    Calls Tryd.prog 15 #[.slice a len cap] w fun e w' => e = .returned (getV zs) ∧ w' = w := by
  by_cases hp : len = 0
  · subst hp; rw [getV_none hz]; exact get_none a cap w
  rcases hLies with h0 | ⟨b, off, rfl, _, hc⟩
  · rw [h0] at hz; exact absurd hz.symm hp
  obtain ⟨q, K, hq, hqK⟩ := kinds _ (hb 0).1 (hb 0).2
  have hk := klen_of hq (hb 0).1 hqK
  rw [hz] at hc
  by_cases hs : len < K
  · rw [getV_short rfl hk (by omega)]
    exact get_short q K hqK b off len cap _ w hq hl (by omega) hs (by exact hc 0 (by omega)) (hb 0) hL
  · rw [getV_done rfl hk (by omega) (by omega)]
    exact get_whole q K hqK b off len cap zs _ w rfl hq hz hl hcap (by omega) hc hb hL

/-- The document's Get, at any bytes. -/
theorem refget_any (a : Option Addr) (len cap : Nat) (zs : List Int) (w : World) (hz : zs.length = len) (hl : len ≤ 1073741824) (hLies : Lies w a zs) (hb : ∀ j : Nat, 0 ≤ zs[j]?.getD 0 ∧ zs[j]?.getD 0 ≤ 255) :
    Calls Tryd.prog 16 #[.slice a len cap] w fun e w' => e = .returned (getV zs) ∧ w' = w := by
  by_cases hp : len = 0
  · subst hp; rw [getV_none hz]; exact refget_none a cap w
  rcases hLies with h0 | ⟨b, off, rfl, _, hc⟩
  · rw [h0] at hz; exact absurd hz.symm hp
  obtain ⟨q, K, hq, hqK⟩ := kinds _ (hb 0).1 (hb 0).2
  have hk := klen_of hq (hb 0).1 hqK
  rw [hz] at hc
  by_cases hs : len < K
  · rw [getV_short rfl hk (by omega)]
    exact refget_short q K hqK b off len cap _ w hq hl (by omega) hs (by exact hc 0 (by omega)) (hb 0)
  · rw [getV_done rfl hk (by omega) (by omega)]
    exact refget_whole q K hqK b off len cap zs _ w rfl hq hz hl (by omega) hc hb
end Go.Proofs.YtdoojlffejjbaaaDoor
