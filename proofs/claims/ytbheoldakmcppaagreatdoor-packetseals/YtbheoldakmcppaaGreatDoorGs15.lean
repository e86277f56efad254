/-
  Out of HkSl, HkPlain, HkHeld.
-/
import Derived.Test.YtbheoldakmcppaaGreatDoorGs17
import Derived.Test.YtbheoldakmcppaaGreatDoorGs7
import Derived.Test.YtbheoldakmcppaaGreatDoorGs1
import Derived.Lib.AppendZeros
import Derived.WalkKit
import Derived.WalkSpells
import Derived.WalkLawsBesides

/-! Slices of bytes as they come in, joined one behind the other: slices.Grow, slices.Concat, hkdf.sumOf. -/
namespace Go.Proofs.YtbheoldakmcppaaGreatDoor
open Go Go.RowKit

set_option maxHeartbeats 1000000 in
/-- Room for more, from none. -/
theorem grow_any (n : Nat) (w : World) (hn : n ≤ 4194304) :
    Calls Tryz.prog 190 #[.slice none 0 0, .int .i64 n] w fun e w' => ∃ v, e = .returned v ∧ w'.ownsRow w.heap.size 5 1 v 0 (vb []) ∧ Below w.heap.size w w' := by
  obtain ⟨i0, hi, hz0, hz1, hz2⟩ := info_parts (P := Tryz.prog) (e := 5) (z := .int .u8 0) (size := 1) (bytes := 1) (by kernel_rfl)
  have h1 : ¬ ((n : Int) < 0) := by omega
  by_cases h0 : 0 < n
  · have hrz : ∀ ty, (Builtin.append_ #[22, 3] ty #[.slice none 0 0, .int .i64 (n : Int)]).run Tryz.prog w = _ := fun ty =>
      Lib.run_append_nil_zeros w 22 3 ty 5 i0 (.int .u8 0) .i64 .i64 Tryz.underlying22 (by kernel_rfl) hi hz0 n h0 (by omega) (by omega) (by rw [hz2]; omega)
    have hG : n ≤ grownCap w n 0 5 := grownCap_ge ..
    have hGm : grownCap w n 0 5 ≤ maxLen := grownCap_le_maxLen w n 0 5 (by unfold maxLen; omega)
    have hG63 : grownCap w n 0 5 ≤ 9223372036854775807 := hGm
    generalize grownCap w n 0 5 = G at *
    have h4 : (n : Int) > 0 := by omega
    go_enter Tryz.func190, Tryz.ntmps190
    go_wp2_with (at_builtin; refine Lib.wpList_append_run _ rfl _ _ _ _ rfl _ _ rfl rfl _ _ (hrz _) ?_)
    go_ret
    refine ⟨_, rfl, World.ownsRow_made w.drew _ G (Nat.le_refl _) hGm ?_, ((Below.refl _ w).drew).alloc (Nat.le_refl _) _⟩
    rw [Array.size_append, size_zeroCells, size_zeroCells]
    show n * 1 + (G - n) * 1 = G * 1
    omega
  · obtain rfl : n = 0 := by omega
    go_enter Tryz.func190, Tryz.ntmps190
    go_wp2_with fail
    go_ret
    exact ⟨_, rfl, World.ownsRow_nil _ _ _ _, Below.refl _ _⟩

/-- Bytes, one behind the other. -/
def joinB (ls : List SL) : List By := (ls.map (·.b)).flatten
theorem joinB_take {ls : List SL} {k : Nat} {s : SL} (h : ls[k]? = some s) : joinB (ls.take (k + 1)) = joinB (ls.take k) ++ s.b := by
  unfold joinB
  rw [List.take_add_one, h]
  simp
theorem joinB_le (ls : List SL) (k : Nat) : (joinB (ls.take k)).length ≤ (joinB ls).length := by
  have : joinB ls = joinB (ls.take k) ++ joinB (ls.drop k) := by
    unfold joinB
    rw [← List.flatten_append, ← List.map_append, List.take_append_drop]
  rw [this, List.length_append]
  omega

set_option maxRecDepth 20000 in
set_option maxHeartbeats 1000000 in
theorem concat_any (L o m c : Nat) (ls : List SL) (w : World) (hm : ls.length = m) (hm2 : m ≤ 1000) (hok : ∀ s ∈ ls, s.Ok w) (htot : (joinB ls).length ≤ 4194304) (hL : L < w.heap.size)
    (hc : ∀ (j : Nat) (s : SL), ls[j]? = some s → w.cell? ⟨L, o + j, none⟩ = some (.slice s.a s.len s.cap)) :
    Calls Tryz.prog 184 #[.slice (some ⟨L, o, none⟩) m c] w fun e w' => ∃ s : SL, e = .returned (.slice s.a s.len s.cap) ∧ s.Ok w' ∧ s.b = joinB ls ∧ Below w.heap.size w w' := by
  obtain ⟨i0, hi, hz0, hz1, hz2⟩ := info_parts (P := Tryz.prog) (e := 5) (z := .int .u8 0) (size := 1) (bytes := 1) (by kernel_rfl)
  have HM := veil hm
  have HOK := veil hok
  have HC := veil hc
  clear hm hok hc
  go_enter Tryz.func184, Tryz.ntmps184
  go_wp2_with fail
  go_loopw [3, 11] (fun sz i wr => ∃ k N : Nat, k ≤ m ∧ i = .int .i64 k ∧ N = (joinB (ls.take k)).length ∧ sz = .int .i64 N ∧ w = wr)
    (fun _ i _ => m - (intOf i).toNat)
  case atStart => exact ⟨0, 0, Nat.zero_le _, rfl, rfl, rfl, rfl⟩
  case round =>
    obtain ⟨k, N, hk, rfl, hN, rfl, hw⟩ := hrel
    subst hw
    by_cases hlt : k < m
    · obtain ⟨s, hs⟩ : ∃ s, ls[k]? = some s := ⟨_, List.getElem?_eq_getElem (by rw [HM.out]; exact hlt)⟩
      have hcx := HC.out k s hs
      have hle := joinB_le ls (k + 1)
      have hj := joinB_take hs
      have hsb := (HOK.out s (List.mem_of_getElem? hs)).hb
      rw [hj, List.length_append, hsb, ← hN] at hle
      have hN2 : N + s.len = (joinB (ls.take (k + 1))).length := by rw [hj, List.length_append, hsb, ← hN]
      have hNN := veil hN2
      have hneg : ¬ ((N : Int) + (s.len : Int) < 0) := by omega
      clear hj hN hN2 hsb hs
      obtain ⟨sa, sl, sc, sg, so, sb⟩ := s
      simp only at *
      go_wp2_with fail
      go_roundw
      case rel => exact ⟨k + 1, N + sl, by omega, by go_num, hNN.out, by go_num, by first | trivial | rfl⟩
      case measure => simp only [intOf]; omega
    · obtain rfl : m = k := by omega
      rw [List.take_of_length_le (by rw [HM.out]; exact Nat.le_refl _)] at hN
      clear hlt hk
      have hNle : N ≤ 4194304 := by omega
      clear hN
      go_wp2_with fail
      refine (grow_any N _ (by omega)).mono ?_
      rintro e1 w1 ⟨v, rfl, hown, hb1⟩
      have hs1 := hb1.size
      have HOWN := veil hown
      have HB1 := veil hb1
      clear hown hb1
      go_wp2_with fail
      go_loopw [6, 27] (fun v i wr => ∃ k N : Nat, k ≤ m ∧ i = .int .i64 k ∧ N = (joinB (ls.take k)).length ∧ wr.ownsRow w.heap.size 5 1 v N (vb (joinB (ls.take k))) ∧ Below w.heap.size w wr)
        (fun _ i _ => m - (intOf i).toNat)
      case atStart => exact ⟨0, 0, Nat.zero_le _, rfl, rfl, HOWN.out, HB1.out⟩
      case round =>
        clear HOWN HB1
        obtain ⟨k, N', hk, rfl, hN', hown, hbel⟩ := hrel
        by_cases hlt : k < m
        · obtain ⟨s, hs⟩ : ∃ s, ls[k]? = some s := ⟨_, List.getElem?_eq_getElem (by rw [HM.out]; exact hlt)⟩
          have hcx := (hbel.cell (p := ⟨L, o + k, none⟩) hL).trans (HC.out k s hs)
          have hle := joinB_le ls (k + 1)
          have hj := joinB_take hs
          have hok1 := HOK.out s (List.mem_of_getElem? hs)
          have hok2 := veil (hok1.below hbel)
          have hsb := hok1.hb
          rw [hj, List.length_append, hsb, ← hN'] at hle
          have hN2 : N' + s.len = (joinB (ls.take (k + 1))).length := by rw [hj, List.length_append, hsb, ← hN']
          have hNN := veil hN2
          have HJ := veil hj
          have HOWN := veil hown
          have HB1 := veil hbel
          have hsz := hbel.size
          clear hj hN' hN2 hsb hs hok1 hown hbel
          go_wp2_with (with_reducible (show wpList _ _ _ (⟨some 33, Op.call _, _, _, _, _⟩ :: _) _ _)
                       refine append_sl rfl _ _ 22 rfl w.heap.size i0 Tryz.underlying22 hi hz0 hz1 hz2 _ N' _ rfl HOWN.out s hok2.out rfl (by omega) hsz ?_
                       intro v3 w3 hown3 hgrow3)
          have hb3 : Below w.heap.size w w3 := HB1.out.grown hgrow3 hsz (fun q e => (HOWN.out.lt q e).1)
          rw [← HJ.out] at hown3
          go_wp2_with fail
          go_roundw
          case rel => exact ⟨k + 1, N' + s.len, by omega, by go_num, hNN.out, hown3, hb3⟩
          case measure => simp only [intOf]; omega
        · obtain rfl : m = k := by omega
          rw [List.take_of_length_le (by rw [HM.out]; exact Nat.le_refl _)] at hown
          obtain ⟨s, hv, hsl, hsb, hok, _⟩ := SL.of_own hown
          clear hown
          go_wp2_with fail
          go_ret
          exact ⟨s, by rw [← hv]; rfl, hok, hsb, hbel⟩
end Go.Proofs.YtbheoldakmcppaaGreatDoor

/-! MACs and the bytes of a key, on lists: no program in sight. -/
namespace Go.Proofs.YtbheoldakmcppaaGreatDoor
open Go

/-- A key as MACs take it. -/
def keyL (key : List By) : List By := if 64 < key.length then sumL key ++ List.replicate 32 0 else key ++ List.replicate (64 - key.length) 0
theorem keyL_length (key : List By) : (keyL key).length = 64 := by
  unfold keyL
  split
  · rw [List.length_append, sumL_length, List.length_replicate]
  · rw [List.length_append, List.length_replicate]; omega
/-- A key's pad with a byte. -/
def padX (k : List By) (x : By) : List By := k.map (· ^^^ x)
theorem padX_length (k : List By) (x : By) : (padX k x).length = k.length := by simp [padX]
/-- The MAC of bytes by a key that is 64 bytes. -/
def macK (k b : List By) : List By := sumL (padX k 92 ++ sumL (padX k 54 ++ b))
theorem macK_length (k b : List By) : (macK k b).length = 32 := sumL_length _
/-- The parts T1, T2 .. of a key and some info. -/
def partL (k info : List By) : Nat → List By
  | 0 => []
  | i + 1 => macK k (partL k info i ++ (info ++ [BitVec.ofNat 8 (i + 1)]))
theorem partL_length (k info : List By) (i : Nat) : (partL k info (i + 1)).length = 32 := macK_length _ _
theorem partL_le (k info : List By) (i : Nat) : (partL k info i).length ≤ 32 := by
  cases i with
  | zero => simp [partL]
  | succ i => rw [partL_length]; exact Nat.le_refl _
/-- 32 bytes. -/
abbrev Prt := { x : List By // x.length = 32 }
def hkPartAt (k info : List By) (i : Nat) : Prt := ⟨partL k info (i + 1), partL_length k info i⟩
def partTo (k info : List By) (m : Nat) : List Prt := (List.range m).map (hkPartAt k info)
theorem partTo_succ (k info : List By) (m : Nat) : partTo k info (m + 1) = partTo k info m ++ [hkPartAt k info m] := by unfold partTo; rw [List.range_succ]; simp
theorem partTo_length (k info : List By) (m : Nat) : (partTo k info m).length = m := by simp [partTo]
def joined (l : List Prt) : List By := (l.map (·.1)).flatten
theorem joined_snoc (l : List Prt) (x : Prt) : joined (l ++ [x]) = joined l ++ x.1 := by simp [joined]
theorem joined_length (l : List Prt) : (joined l).length = 32 * l.length := by
  induction l with
  | nil => rfl
  | cons x l ih =>
    have : joined (x :: l) = x.1 ++ joined l := by simp [joined]
    rw [this, List.length_append, ih, x.2, List.length_cons]; omega
/-- What is told once some parts came. -/
def toldL (n : Nat) (l : List Prt) : List By := (joined l).take n
theorem toldL_length (n : Nat) (l : List Prt) : (toldL n l).length = min n (32 * l.length) := by unfold toldL; rw [List.length_take, joined_length]
theorem toldL_snoc (n : Nat) (l : List Prt) (x : Prt) : toldL n (l ++ [x]) = toldL n l ++ x.1.take (min 32 (n - (toldL n l).length)) := by
  unfold toldL
  rw [joined_snoc, List.take_append, List.length_take]
  congr 1
  rcases Nat.le_total n (joined l).length with h | h
  · rw [Nat.min_eq_left h, Nat.sub_self, Nat.sub_eq_zero_of_le h, Nat.min_eq_right (Nat.zero_le _)]
  · rw [Nat.min_eq_right h]
    rcases Nat.le_total 32 (n - (joined l).length) with h2 | h2
    · rw [Nat.min_eq_left h2, List.take_of_length_le (by rw [x.2]; exact h2), List.take_of_length_le (by rw [x.2]; exact Nat.le_refl _)]
    · rw [Nat.min_eq_right h2]
def nparts (n : Nat) : Nat := (n + 31) / 32
def expandL (k info : List By) (n : Nat) : List By := toldL n (partTo k info (nparts n))
theorem expandL_length (k info : List By) (n : Nat) : (expandL k info n).length = n := by
  unfold expandL nparts
  rw [toldL_length, partTo_length]
  omega
/-- The info of a name, some context and how many. -/
def infoL (name ctx : List By) (n : Nat) : List By :=
  ([BitVec.ofNat 8 (n / 256), BitVec.ofNat 8 n, BitVec.ofNat 8 (name.length + 6)] ++ ([116, 108, 115, 49, 51, 32] ++ name)) ++ ([BitVec.ofNat 8 ctx.length] ++ ctx)
theorem infoL_length (name ctx : List By) (n : Nat) : (infoL name ctx n).length = name.length + ctx.length + 10 := by
  simp [infoL]
  omega
end Go.Proofs.YtbheoldakmcppaaGreatDoor

/-! Laws for walks by hand: operations of a region that draws its order; copies into a whole row. -/
