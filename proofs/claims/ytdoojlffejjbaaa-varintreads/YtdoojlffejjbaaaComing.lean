/-
  What varint.comingSevens tells, one by one, with its place.
-/
import Derived.RangeFuncNested
import Derived.RangeFuncBox
import Derived.RangeFuncBound
import Derived.RangeFuncCalls
import Derived.RangeFuncLeaves
import Derived.Shelf.Abstract
import Derived.Shelf.RegionOpen
import Derived.WalkKit
import Derived.OwnWalkIn
import Derived.TacticsInMore
import Derived.LoopNIn
import Derived.LoopIn
import Derived.Maps.AppendAt
import Derived.Test.YtdoojlffejjbaaaHelp
import Derived.Test.YtdoojlffejjbaaaPlain2
namespace Go.Proofs.Ytdoojlffejjbaaa
open Go.RowKit Go.Shelf
attribute [local go_sem] Oper.semAt_some

/-- A place below ten, a byte: whatever pair is told. -/
def ixOf (x : Nat × Int) : Nat := x.1 % 10
def byOf (x : Nat × Int) : Int := x.2 % 256
theorem ixOf_lt (x : Nat × Int) : ixOf x < 10 := Nat.mod_lt _ (by decide)
theorem byOf_bd (x : Nat × Int) : 0 ≤ byOf x ∧ byOf x ≤ 255 := by unfold byOf; omega
theorem ixOf_mk (k : Nat) (c : Int) (h : k < 10) : ixOf (k, c) = k := Nat.mod_eq_of_lt h
theorem byOf_mk (k : Nat) (c : Int) (h0 : 0 ≤ c) (h1 : c ≤ 255) : byOf (k, c) = c := by show c % 256 = c; omega

/-- What is told of a place and a byte. -/
def enc2 (x : Nat × Int) : Array Value := #[.int .i64 (ixOf x : Int), .int .u8 (byOf x)]

/-- The first k places with their bytes. -/
def upto (zs : List Int) (k : Nat) : List (Nat × Int) := (List.range k).map fun j => (j, zs[j]?.getD 0)

theorem upto_succ (zs : List Int) (k : Nat) : upto zs (k + 1) = upto zs k ++ [(k, zs[k]?.getD 0)] := by
  unfold upto; rw [List.range_succ]; simp
theorem upto_length (zs : List Int) (k : Nat) : (upto zs k).length = k := by simp [upto]

/-- All that is told. -/
def Told (zs : List Int) (ys : List (Nat × Int)) : Prop :=
  ∃ K, ys = upto zs K ∧ K ≤ zs.length ∧ K ≤ 10 ∧ (K = zs.length ∨ K = 10 ∨ ∃ j, K = j + 1 ∧ zs[j]?.getD 0 < 128)

set_option maxRecDepth 100000 in
set_option maxHeartbeats 2000000 in
theorem coming1_in (F : Fence) (n : Nat) (h6 : F.fn 14) (hro : F.round = none) (hn : 1 ≤ n) (l Bn n₀ b off len cap : Nat) (zs : List Int) (hz : zs.length = len) (hl : len ≤ 1073741824) (hbn : b < n₀) (hb : ∀ j : Nat, 0 ≤ zs[j]?.getD 0 ∧ zs[j]?.getD 0 ≤ 255) (J Jx : List (Nat × Int) → World → Prop)
    (hY : ∀ pre x W, J pre W → pre.length < 10 → YieldAt F (n - 1) Try.prog l (enc2 x) W fun e W' =>
      (e = .returned (.bool true) ∧ J (pre ++ [x]) W' ∧ Below n₀ W W') ∨ (e = .returned (.bool false) ∧ Jx (pre ++ [x]) W'))
    (W : World) (hBn : W.cell? ⟨Bn, 0, none⟩ = some (.slice (some ⟨b, off, none⟩) len cap)) (hc : ∀ j : Nat, j < len → W.cell? ⟨b, off + j, none⟩ = some (.int .u8 (zs[j]?.getD 0))) (h0 : J [] W) :
    CallsIn F n Try.prog 14 #[.func (.yield l) #[] #[], .pointer (some ⟨Bn, 0, none⟩)] W fun e W' => (∃ v, e = .returned v) ∧
      ((∃ ys, Told zs ys ∧ J ys W') ∨ (∃ pre, (∃ k, k ≤ len ∧ k ≤ 10 ∧ pre = upto zs k) ∧ Jx pre W')) := by
  have HZ : Hid (zs.length = len) := hz
  clear hz
  refine callsIn_of_wp Try.func14 rfl h6 ?_ hro
  simp only [Try.ntmps14, List.size_toArray, List.length_cons, List.length_nil, Nat.reduceAdd, Nat.reduceSub, Array.replicate_succ, Array.replicate_zero, List.push_toArray, List.append_toArray, List.nil_append, List.cons_append]
  gi_wp2
  gi_loopw [7] (fun i wr => ∃ k : Nat, i = .int .i64 k ∧ k ≤ len ∧ k ≤ 10 ∧ J (upto zs k) wr ∧ Below n₀ W wr)
    (fun i _ => len - (intOf i).toNat)
  case atStart =>
    exact ⟨0, rfl, Nat.zero_le _, by omega, h0, Below.refl _ _⟩
  case round =>
    obtain ⟨k, rfl, hk, hk10, hJs, hbel⟩ := hrel
    by_cases hlt : k < len
    · have hcx : wr.cell? ⟨b, off + k, none⟩ = some (.int .u8 (zs[k]?.getD 0)) := (hbel.cell (by exact hbn)).trans (hc k hlt)
      have hbk := hb k
      by_cases hk9 : k = 10
      · subst hk9
        gi_wp2
        refine ⟨fun _ h => (by cases h), ?_⟩
        gi_wp2
        refine bodyPost_ret (results_none rfl _ _ _) rfl ?_
        exact ⟨⟨_, rfl⟩, .inl ⟨_, ⟨10, rfl, by rw [HZ.out]; omega, by omega, .inr (.inl rfl)⟩, hJs⟩⟩
      · have hne : ((k : Int) == 10) = false := by simp; omega
        obtain ⟨fn, tmps, assign, body, hy, hR⟩ := hY (upto zs k) (k, zs[k]?.getD 0) wr hJs (by rw [upto_length]; omega)
        unfold enc2 at hy
        rw [ixOf_mk _ _ (by omega), byOf_mk _ _ hbk.1 hbk.2] at hy
        rw [← upto_succ] at hR
        by_cases hc128 : zs[k]?.getD 0 < 128
        · have H128 : Hid (zs[k]?.getD 0 < 128) := hc128
          have HC : Hid (∀ j : Nat, j < len → W.cell? ⟨b, off + j, none⟩ = some (.int .u8 (zs[j]?.getD 0))) := hc
          clear hc
          gi_wp2
          refine hR.mono ?_
          rintro e W3 (⟨rfl, hJ3, hk3⟩ | ⟨rfl, hJx3⟩)
          · gi_wp2
            refine bodyPost_ret (results_none rfl _ _ _) rfl ?_
            exact ⟨⟨_, rfl⟩, .inl ⟨_, ⟨k + 1, rfl, by rw [HZ.out]; omega, by omega, .inr (.inr ⟨k, rfl, H128.out⟩)⟩, hJ3⟩⟩
          · gi_wp2
            refine bodyPost_ret (results_none rfl _ _ _) rfl ?_
            exact ⟨⟨_, rfl⟩, .inr ⟨_, ⟨k + 1, by omega, by omega, rfl⟩, hJx3⟩⟩
        · have HC : Hid (∀ j : Nat, j < len → W.cell? ⟨b, off + j, none⟩ = some (.int .u8 (zs[j]?.getD 0))) := hc
          clear hc
          gi_wp2
          refine hR.mono ?_
          rintro e W3 (⟨rfl, hJ3, hk3⟩ | ⟨rfl, hJx3⟩)
          · gi_wp2
            go_roundw
            case rel => exact ⟨k + 1, by go_num, by omega, by omega, hJ3, hbel.trans hk3⟩
            case measure => simp [intOf]; omega
          · gi_wp2
            refine bodyPost_ret (results_none rfl _ _ _) rfl ?_
            exact ⟨⟨_, rfl⟩, .inr ⟨_, ⟨k + 1, by omega, by omega, rfl⟩, hJx3⟩⟩
    · gi_wp2
      go_end0
      have hkl : k = len := by omega
      exact ⟨⟨_, rfl⟩, .inl ⟨_, ⟨k, rfl, by rw [HZ.out]; omega, hk10, .inl (by rw [HZ.out]; exact hkl)⟩, hJs⟩⟩

set_option maxHeartbeats 1000000 in
theorem coming_in (F : Fence) (n : Nat) (h5 : F.fn 13) (hro : F.round = none) (a : Option Addr) (len cap : Nat) (w : World) :
    CallsIn F n Try.prog 13 #[.slice a len cap] w fun e w' => e = .returned (.func (.func 14) #[] #[.pointer (some ⟨w.heap.size, 0, none⟩)]) ∧ w' = w.alloc (.cells #[.slice a len cap] 22) := by
  refine callsIn_of_wp Try.func13 rfl h5 ?_ hro
  simp only [Try.ntmps13, List.size_toArray, List.length_cons, List.length_nil, Nat.reduceAdd, Nat.reduceSub, Array.replicate_succ, Array.replicate_zero, List.push_toArray, List.append_toArray, List.nil_append, List.cons_append]
  gi_wp2
  go_ret
  exact ⟨rfl, rfl⟩

theorem coming_stops (F : Fence) (n : Nat) (h6 : F.fn 14) (hro : F.round = none) (hn : 1 ≤ n) (Bn n₀ b off len cap : Nat) (zs : List Int) (hz : zs.length = len) (hl : len ≤ 1073741824) (hbn : b < n₀) (hb : ∀ j : Nat, 0 ≤ zs[j]?.getD 0 ∧ zs[j]?.getD 0 ≤ 255) (w : World) (hBn : Bn < w.heap.size) (hn₀ : n₀ ≤ w.heap.size)
    (hcB : w.cell? ⟨Bn, 0, none⟩ = some (.slice (some ⟨b, off, none⟩) len cap)) (hc : ∀ j : Nat, j < len → w.cell? ⟨b, off + j, none⟩ = some (.int .u8 (zs[j]?.getD 0))) :
    SeqStopsK F n Try.prog 14 #[.pointer (some ⟨Bn, 0, none⟩)] enc2 (Below n₀) (Told zs) (fun pre => ∃ k, k ≤ len ∧ k ≤ 10 ∧ pre = upto zs k) 10 w := fun l J Jx W hW _ _ hY h0 =>
  coming1_in F n h6 hro hn l Bn n₀ b off len cap zs hz hl hbn hb J Jx hY W ((hW.cell (p := ⟨Bn, 0, none⟩) hBn).trans hcB) (fun j hj => (hW.cell (p := ⟨b, off + j, none⟩) (Nat.lt_of_lt_of_le hbn hn₀)).trans (hc j hj)) h0
end Go.Proofs.Ytdoojlffejjbaaa
