/-
  varint.Get at any bytes that there can be. Written out of FrVarG.
-/
import Derived.Test.YtjccjlhnjihfjaaDoorGh9
namespace Go.Proofs.YtjccjlhnjihfjaaDoor
open Go Go.RowKit

set_option maxHeartbeats 400000 in
theorem getW_short (q K : Nat) (hqK : (q = 0 ∧ K = 1) ∨ (q = 1 ∧ K = 2) ∨ (q = 2 ∧ K = 4) ∨ (q = 3 ∧ K = 8)) (b off len cap : Nat) (z : Int) (w : World) (hq : z / 64 = q) (hl : len ≤ 140737488355328) (hp : 0 < len) (hs : len < K)
    (hc0 : w.cell? ⟨b, off, none⟩ = some (.int .u8 z)) (_hb0 : 0 ≤ z ∧ z ≤ 255) (hL : Lens w) :
    Calls Tryd.prog 100 #[.slice (some ⟨b, off, none⟩) len cap] w fun e w' => e = .returned (.tuple #[.int .u64 0, .int .i64 0, .int .i64 4]) ∧ w' = w := by
  obtain ⟨l0, l1, l2, l3⟩ := hL
  have hne : ((len : Int) == 0) = false := by simp; omega
  rcases hqK with ⟨rfl, rfl⟩ | ⟨rfl, rfl⟩ | ⟨rfl, rfl⟩ | ⟨rfl, rfl⟩
  · omega
  all_goals
    go_enter Tryd.func100, Tryd.ntmps100
    go_wp2
    go_ret3
    exact ⟨rfl, rfl⟩

set_option maxHeartbeats 1000000 in
theorem getW_whole (q K : Nat) (hqK : (q = 0 ∧ K = 1) ∨ (q = 1 ∧ K = 2) ∨ (q = 2 ∧ K = 4) ∨ (q = 3 ∧ K = 8)) (b off len cap : Nat) (zs : List Int) (z : Int) (w : World) (hz0 : zs[0]?.getD 0 = z) (hq : z / 64 = q) (hz : zs.length = len) (hl : len ≤ 140737488355328) (hcap : len ≤ cap) (hs : K ≤ len)
    (hc : ∀ j : Nat, j < len → w.cell? ⟨b, off + j, none⟩ = some (.int .u8 (zs[j]?.getD 0))) (hb : ∀ j : Nat, 0 ≤ zs[j]?.getD 0 ∧ zs[j]?.getD 0 ≤ 255) (hL : Lens w) :
    Calls Tryd.prog 100 #[.slice (some ⟨b, off, none⟩) len cap] w fun e w' => e = .returned (.tuple #[.int .u64 (told zs (K - 1)), .int .i64 K, .int .i64 0]) ∧ w' = w := by
  have hp : 0 < len := by omega
  have hc0 : w.cell? ⟨b, off, none⟩ = some (.int .u8 z) := by rw [← hz0]; exact hc 0 hp
  have HB := fun (i : Nat) (hi : i ≤ 7) => told_bound zs i hi hb
  have HS := fun (i : Nat) (hi : i + 1 < len) => told_succ zs i (by rw [hz]; exact hi)
  have H0 : Hid (told zs 0 = z % 64) := by rw [← hz0]; exact told_zero zs
  obtain ⟨l0, l1, l2, l3⟩ := hL
  have hb0 : 0 ≤ z ∧ z ≤ 255 := by rw [← hz0]; exact hb 0
  have hne : ((len : Int) == 0) = false := by simp; omega
  have hm := mask63 _ hb0.1 hb0.2
  clear hz hz0
  rcases hqK with ⟨rfl, rfl⟩ | ⟨rfl, rfl⟩ | ⟨rfl, rfl⟩ | ⟨rfl, rfl⟩
  · by_cases hc1 : cap = 1
    all_goals
      go_enter Tryd.func100, Tryd.ntmps100
      go_wp2
      refine wp_loop_rounds 1 ?_
      rw [rounds_succ]
      go_wp2
      go_ret3
      exact ⟨tup3 H0.out.symm rfl rfl, rfl⟩
  · go_enter Tryd.func100, Tryd.ntmps100
    go_wp2
    go_loop [6, 31] (fun n i => ∃ k : Nat, k ≤ 1 ∧ i = .int .i64 k ∧ n = .int .u64 (told zs k)) (fun _ i => 1 - (intOf i).toNat)
    case atStart => exact ⟨0, by omega, rfl, by rw [H0.out]⟩
    case round =>
      obtain ⟨k, hk, rfl, rfl⟩ := hrel
      have hbd := HB k (by omega)
      by_cases hlt : k < 1
      · have hcx : w.cell? ⟨b, off + 1 + k, none⟩ = some (.int .u8 (zs[k + 1]?.getD 0)) := by have := hc (k + 1) (by omega); rw [show off + (k + 1) = off + 1 + k by omega] at this; exact this
        have hbk := hb (k + 1)
        have hlow : told zs k < 72057594037927936 := told_low zs k (by omega) hb
        have hj := join8 (told zs k) (zs[k + 1]?.getD 0) hbd.1 hlow hbk.1 hbk.2
        have hsn : Hid (told zs (k + 1) = 256 * told zs k + zs[k + 1]?.getD 0) := HS k (by omega)
        generalize told zs k = n at *
        generalize zs[k + 1]?.getD 0 = c at *
        clear HB HS hb hc H0
        go_wp2
        go_round
        case rel => exact ⟨k + 1, by omega, by go_num, by rw [hsn.out]⟩
        case measure => simp [intOf]; omega
      · have hkl : k = 1 := by omega
        subst hkl
        clear HB HS hb hc H0
        go_wp2
        go_ret3
        exact ⟨rfl, rfl⟩
  · go_enter Tryd.func100, Tryd.ntmps100
    go_wp2
    go_loop [6, 31] (fun n i => ∃ k : Nat, k ≤ 3 ∧ i = .int .i64 k ∧ n = .int .u64 (told zs k)) (fun _ i => 3 - (intOf i).toNat)
    case atStart => exact ⟨0, by omega, rfl, by rw [H0.out]⟩
    case round =>
      obtain ⟨k, hk, rfl, rfl⟩ := hrel
      have hbd := HB k (by omega)
      by_cases hlt : k < 3
      · have hcx : w.cell? ⟨b, off + 1 + k, none⟩ = some (.int .u8 (zs[k + 1]?.getD 0)) := by have := hc (k + 1) (by omega); rw [show off + (k + 1) = off + 1 + k by omega] at this; exact this
        have hbk := hb (k + 1)
        have hlow : told zs k < 72057594037927936 := told_low zs k (by omega) hb
        have hj := join8 (told zs k) (zs[k + 1]?.getD 0) hbd.1 hlow hbk.1 hbk.2
        have hsn : Hid (told zs (k + 1) = 256 * told zs k + zs[k + 1]?.getD 0) := HS k (by omega)
        generalize told zs k = n at *
        generalize zs[k + 1]?.getD 0 = c at *
        clear HB HS hb hc H0
        go_wp2
        go_round
        case rel => exact ⟨k + 1, by omega, by go_num, by rw [hsn.out]⟩
        case measure => simp [intOf]; omega
      · have hkl : k = 3 := by omega
        subst hkl
        clear HB HS hb hc H0
        go_wp2
        go_ret3
        exact ⟨rfl, rfl⟩
  · go_enter Tryd.func100, Tryd.ntmps100
    go_wp2
    go_loop [6, 31] (fun n i => ∃ k : Nat, k ≤ 7 ∧ i = .int .i64 k ∧ n = .int .u64 (told zs k)) (fun _ i => 7 - (intOf i).toNat)
    case atStart => exact ⟨0, by omega, rfl, by rw [H0.out]⟩
    case round =>
      obtain ⟨k, hk, rfl, rfl⟩ := hrel
      have hbd := HB k (by omega)
      by_cases hlt : k < 7
      · have hcx : w.cell? ⟨b, off + 1 + k, none⟩ = some (.int .u8 (zs[k + 1]?.getD 0)) := by have := hc (k + 1) (by omega); rw [show off + (k + 1) = off + 1 + k by omega] at this; exact this
        have hbk := hb (k + 1)
        have hlow : told zs k < 72057594037927936 := told_low zs k (by omega) hb
        have hj := join8 (told zs k) (zs[k + 1]?.getD 0) hbd.1 hlow hbk.1 hbk.2
        have hsn : Hid (told zs (k + 1) = 256 * told zs k + zs[k + 1]?.getD 0) := HS k (by omega)
        generalize told zs k = n at *
        generalize zs[k + 1]?.getD 0 = c at *
        clear HB HS hb hc H0
        go_wp2
        go_round
        case rel => exact ⟨k + 1, by omega, by go_num, by rw [hsn.out]⟩
        case measure => simp [intOf]; omega
      · have hkl : k = 7 := by omega
        subst hkl
        clear HB HS hb hc H0
        go_wp2
        go_ret3
        exact ⟨rfl, rfl⟩

/-- varint.Get, at any bytes. -/
theorem getW_any (a : Option Addr) (len cap : Nat) (zs : List Int) (w : World) (hz : zs.length = len) (hl : len ≤ 140737488355328) (hcap : len ≤ cap) (hLies : LiesV w a zs) (hb : ∀ j : Nat, 0 ≤ zs[j]?.getD 0 ∧ zs[j]?.getD 0 ≤ 255) (hL : Lens w) :
    Calls Tryd.prog 100 #[.slice a len cap] w fun e w' => e = .returned (getV zs) ∧ w' = w := by
  by_cases hp : len = 0
  · subst hp; rw [getV_none hz]; exact get_none a cap w
  rcases hLies with h0 | ⟨b, off, rfl, _, hc⟩
  · rw [h0] at hz; exact absurd hz.symm hp
  obtain ⟨q, K, hq, hqK⟩ := kinds _ (hb 0).1 (hb 0).2
  have hk := klen_of hq (hb 0).1 hqK
  rw [hz] at hc
  by_cases hs : len < K
  · rw [getV_short rfl hk (by omega)]
    exact getW_short q K hqK b off len cap _ w hq hl (by omega) hs (by exact hc 0 (by omega)) (hb 0) hL
  · rw [getV_done rfl hk (by omega) (by omega)]
    exact getW_whole q K hqK b off len cap zs _ w rfl hq hz hl hcap (by omega) hc hb hL

theorem var_getW (s : SL) (w : World) (hs : s.Ok w) (hl : s.len ≤ 140737488355328) (hL : Lens w) :
    Calls Tryd.prog 100 #[.slice s.a s.len s.cap] w fun e w' => e = .returned (gotV s.b) ∧ w' = w := by
  rw [← getV_num]
  exact getW_any s.a s.len s.cap (s.b.map v8) w (by rw [List.length_map, hs.hb]) hl hs.hcap (lies_sl hs) (byte_range s.b) hL
end Go.Proofs.YtjccjlhnjihfjaaDoor
