/-
  Out of PlVec, ShaUndPlain, PlAliveB, PlLawP, PlRefP, PlRefC, PlRefA, PlRefM.
-/
import Derived.Test.YtbheoldakmcppaaGreatDoorGs8
import Derived.Test.YtbheoldakmcppaaGreatDoorGs4
import Derived.Lib.SlBytesConst
import Derived.Laws.OwnMore
import Derived.BigRegion

/-! Tags that the document fixes, and sums of sixteen bytes: no program in sight. -/
namespace Go.Proofs.YtbheoldakmcppaaGreatDoor
open Go

/-! ### Sums of sixteen bytes -/
theorem leK_div (b : List By) (j : Nat) : ∀ k, j < k → leK b k / 256 ^ j % 256 = (gb b j).toNat
  | 0, h => by omega
  | k + 1, h => by
    rw [show leK b (k + 1) = leK b k + (gb b k).toNat * 256 ^ k from rfl]
    by_cases hj : j = k
    · subst hj
      rw [Nat.mul_comm, Nat.add_mul_div_left _ _ (Nat.pow_pos (by decide)), Nat.div_eq_of_lt (leK_lt b j), Nat.zero_add]
      exact Nat.mod_eq_of_lt (gb b j).isLt
    · rw [byte_stable _ _ (show j < k by omega)]
      exact leK_div b j k (by omega)
end Go.Proofs.YtbheoldakmcppaaGreatDoor

/-! The words of a block, one after another; operations behind a guard that holds. -/
namespace Go.Proofs.YtbheoldakmcppaaGreatDoor
open Go Go.RowKit

section
variable {P : Program} {ops : Array Oper} {rest : List Oper} {o : Oper} {a : Act} {w : World} {Q : Exit → Act → World → Prop}
end
end Go.Proofs.YtbheoldakmcppaaGreatDoor

/-! Rows as slices; a row built behind a guard. -/
namespace Go.Proofs.YtbheoldakmcppaaGreatDoor
open Go Go.RowKit

end Go.Proofs.YtbheoldakmcppaaGreatDoor

/-! Keys and tags, on lists: no program in sight. -/
namespace Go.Proofs.YtbheoldakmcppaaGreatDoor
open Go Go.RowKit

end Go.Proofs.YtbheoldakmcppaaGreatDoor

/-! Numbers as lists of places below 256: no program in sight. -/
namespace Go.Proofs.YtbheoldakmcppaaGreatDoor
open Go

/-- The number of the first k places. -/
def nK (a : List Nat) : Nat → Nat
  | 0 => 0
  | k + 1 => nK a k + gn a k * 256 ^ k
/-- The number of a list. -/
def nV (a : List Nat) : Nat := nK a a.length
/-- The first k places of a number. -/
def dig (v k : Nat) : List Nat := (List.range k).map fun i => v / 256 ^ i % 256
theorem dig_length (v k : Nat) : (dig v k).length = k := by simp [dig]
theorem dig_get (v k i : Nat) (h : i < k) : gn (dig v k) i = v / 256 ^ i % 256 := by simp [dig, gn, h]
theorem dig_succ (v k : Nat) : dig v (k + 1) = dig v k ++ [v / 256 ^ k % 256] := by
  unfold dig
  rw [List.range_succ, List.map_append]
  rfl
theorem dig_lt (v k i : Nat) : gn (dig v k) i < 256 := by
  by_cases h : i < k
  · rw [dig_get _ _ _ h]
    exact Nat.mod_lt _ (by decide)
  · rw [gn_out (by rw [dig_length]; omega)]
    decide
theorem nK_dig (v n : Nat) : ∀ k, k ≤ n → nK (dig v n) k = v % 256 ^ k
  | 0, _ => by rw [Nat.pow_zero, Nat.mod_one]; rfl
  | k + 1, h => by
    rw [show nK (dig v n) (k + 1) = nK (dig v n) k + gn (dig v n) k * 256 ^ k from rfl, nK_dig v n k (by omega), dig_get _ _ _ (by omega), Nat.mod_pow_succ, Nat.mul_comm]
theorem nV_dig (v n : Nat) (h : v < 256 ^ n) : nV (dig v n) = v := by
  unfold nV
  rw [dig_length, nK_dig v n n (Nat.le_refl _), Nat.mod_eq_of_lt h]
theorem nK_congr {a b : List Nat} (k : Nat) (h : ∀ i, i < k → gn a i = gn b i) : nK a k = nK b k := by
  induction k with
  | zero => rfl
  | succ k ih =>
    rw [show nK a (k + 1) = nK a k + gn a k * 256 ^ k from rfl, ih (fun i hi => h i (by omega)), h k (by omega)]
    rfl
theorem dig_stable (v m : Nat) {j k : Nat} (h : j < k) : (v + m * 256 ^ k) / 256 ^ j % 256 = v / 256 ^ j % 256 := byte_stable v m h
theorem dig_more (v m k : Nat) : dig (v + m * 256 ^ k) k = dig v k := by
  unfold dig
  apply List.map_congr_left
  intro i hi
  exact dig_stable v m (List.mem_range.1 hi)
/-- What is carried when k places are done. -/
theorem more_step (a : List Nat) (k : Nat) : nK a (k + 1) / 256 ^ k = nK a k / 256 ^ k + gn a k := by
  rw [show nK a (k + 1) = nK a k + gn a k * 256 ^ k from rfl, Nat.mul_comm (gn a k), Nat.add_mul_div_left _ _ (Nat.pow_pos (by decide))]
theorem dig_step (a : List Nat) (k : Nat) : dig (nK a (k + 1)) (k + 1) = dig (nK a k) k ++ [(nK a k / 256 ^ k + gn a k) % 256] := by
  rw [dig_succ, more_step, show nK a (k + 1) = nK a k + gn a k * 256 ^ k from rfl, dig_more]
theorem more_next (a : List Nat) (k : Nat) : nK a (k + 1) / 256 ^ (k + 1) = (nK a k / 256 ^ k + gn a k) / 256 := by
  rw [Nat.pow_succ, ← Nat.div_div_eq_div_mul, more_step]
theorem more_le (a : List Nat) (C : Nat) (hC : ∀ i, gn a i ≤ C) : ∀ k, nK a k / 256 ^ k ≤ C
  | 0 => by show 0 / 1 ≤ C; omega
  | k + 1 => by
    rw [more_next]
    have h1 := more_le a C hC k
    have h2 := hC k
    omega
/-- The cells of numbers. -/
def vn (xs : List Nat) : List Value := xs.map fun (x : Nat) => Value.int .u64 (x : Int)
theorem vn_length (xs : List Nat) : (vn xs).length = xs.length := by simp [vn]
theorem vn_append (a b : List Nat) : vn (a ++ b) = vn a ++ vn b := by simp [vn]
theorem vn_get (xs : List Nat) (j : Nat) (h : j < xs.length) : (vn xs)[j]? = some (.int .u64 (gn xs j : Int)) := by simp [vn, gn, h]
end Go.Proofs.YtbheoldakmcppaaGreatDoor

/-! What mailcoachref05.carried answers. -/
namespace Go.Proofs.YtbheoldakmcppaaGreatDoor
open Go Go.RowKit

/-- A block that begins with numbers. -/
structure NOk (w : World) (g n : Nat) (xs : List Nat) : Prop where
  len : xs.length = n
  lt : g < w.heap.size
  cell : ∀ j, j < n → w.cell? ⟨g, j, none⟩ = some (.int .u64 (gn xs j : Int))
theorem NOk.below {w w' : World} {g n : Nat} {xs : List Nat} (h : NOk w g n xs) (hb : Below w.heap.size w w') : NOk w' g n xs :=
  ⟨h.len, Nat.lt_of_lt_of_le h.lt hb.size, fun j hj => (hb.cell (p := ⟨g, j, none⟩) h.lt).trans (h.cell j hj)⟩
theorem NOk.of_own {w : World} {base g n cap : Nat} {xs : List Nat} (h : w.ownsRow base 23 1 (.slice (some ⟨g, 0, none⟩) n cap) n (vn xs)) : NOk w g n xs := by
  have hl : xs.length = n := by have := h.1; rw [vn_length] at this; omega
  refine ⟨hl, ?_, fun j hj => ?_⟩
  · rcases h.2 with ⟨h1, _⟩ | ⟨g', c', cur, h1, _, h3, _⟩
    · cases h1
    · simp only [Value.slice.injEq, Option.some.injEq, Addr.mk.injEq, and_true, true_and] at h1
      obtain ⟨rfl, rfl⟩ := h1
      exact (Array.getElem?_eq_some_iff.1 h3).1
  · rw [h.cellAt j (by omega), vn_get xs j (by omega)]

set_option maxRecDepth 20000 in
set_option maxHeartbeats 1000000 in
theorem refCarried_any (g cap : Nat) (xs : List Nat) (w : World) (hx : NOk w g 34 xs) (hC : ∀ i, gn xs i ≤ 1152921504606846976) :
    Calls Tryz.prog 179 #[.slice (some ⟨g, 0, none⟩) 34 cap, .int .i64 34] w fun e w' => ∃ v, e = .returned v ∧ w'.ownsRow w.heap.size 23 1 v 34 (vn (dig (nV xs) 34)) ∧ Below w.heap.size w w' := by
  obtain ⟨i0, hi, hz0, hz1, hz2⟩ := info_parts (P := Tryz.prog) (e := 23) (z := .int .u64 0) (size := 1) (bytes := 8) (by kernel_rfl)
  have HX := veil hx
  have HC := veil hC
  clear hx hC
  go_enter Tryz.func179, Tryz.ntmps179
  go_wp2
  go_loopw [5, 6, 7] (fun v mv iv wr => ∃ (k : Nat) (a : Option Addr) (cp : Nat), k ≤ 34 ∧ iv = .int .i64 k ∧ mv = .int .u64 ((nK xs k / 256 ^ k : Nat) : Int) ∧ v = .slice a k cp ∧ wr.ownsRow w.heap.size 23 1 (.slice a k cp) k (vn (dig (nK xs k) k)) ∧ Below w.heap.size w wr)
    (fun _ _ iv _ => 34 - (intOf iv).toNat)
  case atStart => exact ⟨0, none, 0, by omega, rfl, by simp [nK], rfl, World.ownsRow_nil _ _ _ _, Below.refl _ _⟩
  case round =>
    obtain ⟨k, a2, c2, hk, rfl, rfl, rfl, hown, hbel⟩ := hrel
    have HOWN := veil hown
    have HB := veil hbel
    have hsz := hbel.size
    have HCX := veil (HX.out.below hbel)
    clear hown hbel
    by_cases hlt : k < 34
    · have hdk : decide ((k : Int) < 34) = true := by simp; omega
      have cx := HCX.out.cell k hlt
      obtain ⟨x, hxe⟩ : ∃ x, x = gn xs k := ⟨_, rfl⟩
      have hxb : x ≤ 1152921504606846976 := by rw [hxe]; exact HC.out k
      obtain ⟨m, hme⟩ : ∃ m, m = nK xs k / 256 ^ k := ⟨_, rfl⟩
      have hmb : m ≤ 1152921504606846976 := by rw [hme]; exact more_le xs _ HC.out k
      rw [← hxe] at cx
      rw [← hme]
      have HD : Hid (dig (nK xs (k + 1)) (k + 1) = dig (nK xs k) k ++ [(m + x) % 256]) := show _ = _ by rw [dig_step, hme, hxe]
      have HN : Hid (((m : Int) + (x : Int)) / 256 = ((nK xs (k + 1) / 256 ^ (k + 1) : Nat) : Int)) := show _ = _ by
        rw [more_next, ← hme, ← hxe]
        omega
      have E1 : Hid (((m : Int) + (x : Int)) % 256 = (((m + x) % 256 : Nat) : Int)) := show _ = _ by omega
      clear hxe hme
      go_wp2_with (with_reducible (show wpList _ _ _ (⟨some 27, Op.call _, _, _, _, _⟩ :: _) _ _)
                   refine wpList_append_own _ rfl _ _ 96 rfl w.heap.size 23 i0 (.int .u64 0) 1 8 Tryz.underlying96 hi hz0 hz1 hz2 rfl (by decide) _ k _ rfl (HOWN.out.alloc _) ⟨wr.heap.size, 0, none⟩ 1 1 [.int .u64 (((m : Int) + (x : Int)) % 256)] rfl rfl (cell_one_new _ _ _) (by simp [Value.oneCell']) (by unfold maxLen; omega) (by omega) (by simp; omega) ?_
                   intro v5 w5 hown5 hgrow5 _
                   obtain ⟨a5, c5, rfl⟩ := own_shape hown5)
      rw [HN.out]
      refine ⟨⟨k + 1, a5, c5, by omega, by go_num, rfl, rfl, ?_, (HB.out.alloc hsz _).grown hgrow5 (by simp; omega) (fun q e => ((HOWN.out.alloc (.cells #[] 23)).lt q e).1)⟩, by simp [intOf]; omega⟩
      rw [HD.out, vn_append]
      rw [E1.out] at hown5
      exact hown5
    · have hdk : decide ((k : Int) < 34) = false := by simp; omega
      obtain rfl : k = 34 := by omega
      have HE : Hid (nK xs 34 = nV xs) := show _ = _ by unfold nV; rw [HX.out.len]
      go_wp2
      go_ret
      exact ⟨_, rfl, by rw [← HE.out]; exact HOWN.out, HB.out⟩
end Go.Proofs.YtbheoldakmcppaaGreatDoor

/-! What mailcoachref05.add answers. -/
namespace Go.Proofs.YtbheoldakmcppaaGreatDoor
open Go Go.RowKit

/-- 34 places 0. -/
def z34 : List Nat := List.replicate 34 0
theorem gn_z34 (i : Nat) : gn z34 i = 0 := by
  unfold gn z34
  rw [List.getElem?_replicate]
  split <;> rfl
theorem nK_add (a b c : List Nat) (k : Nat) (h : ∀ i, i < k → gn c i = gn a i + gn b i) : nK c k = nK a k + nK b k := by
  induction k with
  | zero => rfl
  | succ k ih =>
    rw [show nK c (k + 1) = nK c k + gn c k * 256 ^ k from rfl, ih (fun i hi => h i (by omega)), h k (by omega), show nK a (k + 1) = nK a k + gn a k * 256 ^ k from rfl, show nK b (k + 1) = nK b k + gn b k * 256 ^ k from rfl, Nat.add_mul]
    omega
theorem nK_out (a : List Nat) (k : Nat) (h : a.length ≤ k) : nK a k = nV a := by
  unfold nV
  have : ∀ d, nK a (a.length + d) = nK a a.length := by
    intro d
    induction d with
    | zero => rfl
    | succ d ih =>
      rw [show a.length + (d + 1) = (a.length + d) + 1 by omega, show nK a (a.length + d + 1) = nK a (a.length + d) + gn a (a.length + d) * 256 ^ (a.length + d) from rfl, ih, gn_out (by omega), Nat.zero_mul, Nat.add_zero]
  rw [show k = a.length + (k - a.length) by omega, this]
theorem made_vn (n : Nat) : (madeCells (Value.int .u64 0).cells (n * 1)).toList = vn (List.replicate n 0) := by
  apply List.ext_getElem
  · simp [madeCells, vn]
  · intro j h1 h2
    simp [madeCells, vn, Value.cells, Nat.mod_one]

/-- A row of the call's own that is full. -/
theorem own_row {w : World} {base g n : Nat} {xs : List Nat} (h : w.ownsRow base 23 1 (.slice (some ⟨g, 0, none⟩) n n) n (vn xs)) : Row w g 23 (ns xs) := by
  rcases h.2 with ⟨h1, _⟩ | ⟨g', c', cur, h1, _, h3, _, _, h6, h7⟩
  · cases h1
  · simp only [Value.slice.injEq, Option.some.injEq, Addr.mk.injEq, and_true, true_and] at h1
    obtain ⟨rfl, rfl⟩ := h1
    rw [List.take_of_length_le (by rw [Array.length_toList, h6]; exact Nat.le_refl _)] at h7
    have e : cur = ns xs := by
      apply Array.ext'
      rw [h7]
      rfl
    rw [e] at h3
    exact h3
theorem NOk.of_row {w : World} {g n : Nat} {t : TypeId} {xs : List Nat} (h : Row w g t (ns xs)) (hn : xs.length = n) : NOk w g n xs := ⟨hn, h.lt, fun j hj => h.cellN (by omega)⟩

set_option maxRecDepth 20000 in
set_option maxHeartbeats 1000000 in
theorem refAdd_any (ga na ca : Nat) (a : List Nat) (gb' nb' cb : Nat) (b : List Nat) (w : World) (ha : NOk w ga na a) (hb : NOk w gb' nb' b) (hna : na ≤ 34) (hnb : nb' ≤ 34) (hA : ∀ i, gn a i ≤ 255) (hB : ∀ i, gn b i ≤ 255) :
    Calls Tryz.prog 160 #[.slice (some ⟨ga, 0, none⟩) na ca, .slice (some ⟨gb', 0, none⟩) nb' cb] w fun e w' => ∃ v, e = .returned v ∧ w'.ownsRow w.heap.size 23 1 v 34 (vn (dig (nV a + nV b) 34)) ∧ Below w.heap.size w w' := by
  obtain ⟨i0, hi, hz0, hz1, hz2⟩ := info_parts (P := Tryz.prog) (e := 23) (z := .int .u64 0) (size := 1) (bytes := 8) (by kernel_rfl)
  have HA := veil ha
  have HB := veil hb
  have HAb := veil hA
  have HBb := veil hB
  clear ha hb hA hB
  go_enter Tryz.func160, Tryz.ntmps160
  go_wp2_with (with_reducible (show wpList _ _ _ (⟨_, Op.makeSlice _ _ _, _, _, _, _⟩ :: _) _ _)
               refine wpList_make_full w rfl _ _ 96 rfl w.heap.size 23 i0 (.int .u64 0) 1 Tryz.underlying96 hi hz0 hz1 .i64 .i64 34 34 34 rfl rfl rfl rfl (by rw [hz2]; decide) (by unfold maxLen; decide) (Nat.le_refl _) ?_
               intro w6 own6 grow6)
  rw [made_vn] at own6
  have r6 : Row w6 w.heap.size 23 (ns z34) := own_row own6
  have b6 : Below w.heap.size w w6 := (Below.refl _ w).grown grow6 (Nat.le_refl _) (fun q e => by cases e)
  clear own6 grow6
  go_loopw [6] (fun iv wr => ∃ (k : Nat) (zs : List Nat), k ≤ na ∧ iv = .int .i64 k ∧ Hid (zs.length = 34) ∧ Hid (∀ i, gn zs i = if i < k then gn a i else 0) ∧ Row wr w.heap.size 23 (ns zs) ∧ Below w.heap.size w wr)
    (fun iv _ => na - (intOf iv).toNat)
  case atStart => exact ⟨0, z34, by omega, rfl, rfl, fun i => by rw [if_neg (by omega), gn_z34], r6, b6⟩
  case round =>
    clear r6 b6
    obtain ⟨k, zs, hk, rfl, HL, HE, rZ, hbel⟩ := hrel
    by_cases hlt : k < na
    · have hdk : decide ((k : Int) < (na : Int)) = true := by simp; omega
      have cx := (HA.out.below hbel).cell k hlt
      have cz := rZ.cellN (j := k) (by rw [HL.out]; omega)
      have fz := rZ.frozen k
      rw [HE.out k, if_neg (by omega)] at cz
      obtain ⟨x, hxe⟩ : ∃ x, x = gn a k := ⟨_, rfl⟩
      have hxb : x ≤ 255 := by rw [hxe]; exact HAb.out k
      rw [← hxe] at cx
      have HX := veil hxe
      have hgne : Hid (ga ≠ w.heap.size) := show _ ≠ _ by have := HA.out.lt; omega
      have hp : (0 : Int) ≤ (k : Int) ∧ (k : Int) < 34 := by omega
      have hp2 : (0 : Int) ≤ (k : Int) ∧ (k : Int) < (na : Int) := by omega
      clear hxe
      go_wp2
      go_region
      go_wp2
      go_roundw
      case rel =>
        have qZ := rZ.set k (.int .u64 (x : Int))
        rw [ns_set] at qZ
        refine ⟨k + 1, _, by omega, by go_num, ?_, ?_, qZ, Below.drew (hbel.setCell (p := ⟨w.heap.size, k, none⟩) (Nat.le_refl _) _)⟩
        · show List.length _ = 34
          rw [List.length_set]; exact HL.out
        · intro i
          rw [gn_set, HE.out i, HX.out, HL.out]
          by_cases hi : k = i ∧ i < 34
          · rw [if_pos hi, if_pos (by omega), hi.1]
          · rw [if_neg hi]
            by_cases h2 : i < k
            · rw [if_pos h2, if_pos (by omega)]
            · rw [if_neg h2, if_neg (by omega)]
      case measure => simp [intOf]; omega
    · have hdk : decide ((k : Int) < (na : Int)) = false := by simp; omega
      rw [show k = na by omega] at HE
      have HE2 : Hid (∀ i, gn zs i = gn a i) := show ∀ i, gn zs i = gn a i from fun i => by
        rw [HE.out i]
        split
        · rfl
        · rw [gn_out (by rw [HA.out.len]; omega)]
      clear HE
      go_wp2
      go_loopw [7] (fun iv wr => ∃ (k : Nat) (ys : List Nat), k ≤ nb' ∧ iv = .int .i64 k ∧ Hid (ys.length = 34) ∧ Hid (∀ i, gn ys i = gn a i + if i < k then gn b i else 0) ∧ Row wr w.heap.size 23 (ns ys) ∧ Below w.heap.size w wr)
        (fun iv _ => nb' - (intOf iv).toNat)
      case atStart => exact ⟨0, zs, by omega, rfl, HL, fun i => by rw [if_neg (by omega), Nat.add_zero, HE2.out], rZ, hbel⟩
      case round =>
        clear rZ hbel HL HE2 hdk
        obtain ⟨k, ys, hk, rfl, HL, HE, rZ, hbel⟩ := hrel
        by_cases hlt : k < nb'
        · have hdk : decide ((k : Int) < (nb' : Int)) = true := by simp; omega
          have cx := (HB.out.below hbel).cell k hlt
          have cz := rZ.cellN (j := k) (by rw [HL.out]; omega)
          have fz := rZ.frozen k
          rw [HE.out k, if_neg (by omega), Nat.add_zero] at cz
          obtain ⟨x, hxe⟩ : ∃ x, x = gn b k := ⟨_, rfl⟩
          have hxb : x ≤ 255 := by rw [hxe]; exact HBb.out k
          rw [← hxe] at cx
          obtain ⟨y, hye⟩ : ∃ y, y = gn a k := ⟨_, rfl⟩
          have hyb : y ≤ 255 := by rw [hye]; exact HAb.out k
          rw [← hye] at cz
          have HX := veil hxe
          have HYy := veil hye
          have hp : (0 : Int) ≤ (k : Int) ∧ (k : Int) < 34 := by omega
          have hp2 : (0 : Int) ≤ (k : Int) ∧ (k : Int) < (nb' : Int) := by omega
          have E1 : Hid ((y : Int) + (x : Int) = ((y + x : Nat) : Int)) := show _ = _ by omega
          clear hxe hye
          go_wp2
          go_region
          go_wp2
          go_roundw
          case rel =>
            rw [E1.out]
            have qZ := rZ.set k (.int .u64 ((y + x : Nat) : Int))
            rw [ns_set] at qZ
            refine ⟨k + 1, _, by omega, by go_num, ?_, ?_, qZ, Below.drew (hbel.setCell (p := ⟨w.heap.size, k, none⟩) (Nat.le_refl _) _)⟩
            · show List.length _ = 34
              rw [List.length_set]; exact HL.out
            · intro i
              rw [gn_set, HE.out i, HX.out, HYy.out, HL.out]
              by_cases hi : k = i ∧ i < 34
              · rw [if_pos hi, if_pos (by omega), hi.1]
              · rw [if_neg hi]
                by_cases h2 : i < k
                · rw [if_pos h2, if_pos (by omega)]
                · rw [if_neg h2, if_neg (by omega)]
          case measure => simp [intOf]; omega
        · have hdk : decide ((k : Int) < (nb' : Int)) = false := by simp; omega
          rw [show k = nb' by omega] at HE
          have HE2 : Hid (∀ i, gn ys i = gn a i + gn b i) := show ∀ i, gn ys i = gn a i + gn b i from fun i => by
            rw [HE.out i]
            split
            · rfl
            · rw [gn_out (xs := b) (by rw [HB.out.len]; omega)]
          have HV : Hid (nV ys = nV a + nV b) := show _ = _ by
            rw [← nK_out ys 34 (by rw [HL.out]; omega), ← nK_out a 34 (by rw [HA.out.len]; exact hna), ← nK_out b 34 (by rw [HB.out.len]; exact hnb)]
            exact nK_add a b ys 34 (fun i _ => HE2.out i)
          have HC : Hid (∀ i, gn ys i ≤ 1152921504606846976) := show ∀ i, gn ys i ≤ 1152921504606846976 from fun i => by
            rw [HE2.out i]
            have h1 := HAb.out i
            have h2 := HBb.out i
            omega
          have HNO := veil (NOk.of_row rZ HL.out)
          clear HE HE2
          go_wp2_with fail
          refine (refCarried_any w.heap.size 34 ys wr HNO.out HC.out).mono ?_
          rintro e8 w8 ⟨v8', rfl, own8, hb8⟩
          have own9 := own_low own8 hbel.size
          rw [HV.out] at own9
          go_wp2
          go_ret
          exact ⟨_, rfl, own9, hbel.trans (hb8.mono hbel.size)⟩
end Go.Proofs.YtbheoldakmcppaaGreatDoor

/-! What mailcoachref05.mul answers. -/
namespace Go.Proofs.YtbheoldakmcppaaGreatDoor
open Go Go.RowKit

theorem nK_set (zs : List Nat) (m x : Nat) (hm : m < zs.length) : ∀ K, nK (zs.set m (gn zs m + x)) K = nK zs K + if m < K then x * 256 ^ m else 0
  | 0 => by rw [if_neg (by omega)]; rfl
  | K + 1 => by
    rw [show nK (zs.set m (gn zs m + x)) (K + 1) = nK (zs.set m (gn zs m + x)) K + gn (zs.set m (gn zs m + x)) K * 256 ^ K from rfl, nK_set zs m x hm K, show nK zs (K + 1) = nK zs K + gn zs K * 256 ^ K from rfl]
    by_cases h : m = K
    · subst h
      rw [if_neg (by omega), if_pos (by omega), gn_set_same hm, Nat.add_mul]
      omega
    · rw [gn_set_ne h]
      by_cases h2 : m < K
      · rw [if_pos h2, if_pos (by omega)]
        omega
      · rw [if_neg h2, if_neg (by omega)]
        omega
/-- The sum, when all below (i, k) is in it. -/
def Qik (a b : List Nat) (i k : Nat) : Nat := nK a i * nK b 17 + gn a i * 256 ^ i * nK b k
theorem Qik_step (a b : List Nat) (i k : Nat) : Qik a b i (k + 1) = Qik a b i k + gn a i * gn b k * 256 ^ (i + k) := by
  unfold Qik
  rw [show nK b (k + 1) = nK b k + gn b k * 256 ^ k from rfl, Nat.mul_add, Nat.pow_add, ← Nat.add_assoc]
  congr 1
  simp only [Nat.mul_assoc, Nat.mul_left_comm]
theorem Qik_next (a b : List Nat) (i : Nat) : Qik a b (i + 1) 0 = Qik a b i 17 := by
  unfold Qik
  rw [show nK b 0 = 0 from rfl, Nat.mul_zero, Nat.add_zero, show nK a (i + 1) = nK a i + gn a i * 256 ^ i from rfl, Nat.add_mul]
theorem Qik_all (a b : List Nat) : Qik a b 17 0 = nK a 17 * nK b 17 := by
  unfold Qik
  rw [show nK b 0 = 0 from rfl, Nat.mul_zero, Nat.add_zero]

set_option maxRecDepth 20000 in
set_option maxHeartbeats 2000000 in
theorem refMul_any (ga ca : Nat) (a : List Nat) (gb' cb : Nat) (b : List Nat) (w : World) (ha : NOk w ga 17 a) (hb : NOk w gb' 17 b) (hA : ∀ i, gn a i ≤ 255) (hB : ∀ i, gn b i ≤ 255) :
    Calls Tryz.prog 162 #[.slice (some ⟨ga, 0, none⟩) 17 ca, .slice (some ⟨gb', 0, none⟩) 17 cb] w fun e w' => ∃ v, e = .returned v ∧ w'.ownsRow w.heap.size 23 1 v 34 (vn (dig (nV a * nV b) 34)) ∧ Below w.heap.size w w' := by
  obtain ⟨i0, hi, hz0, hz1, hz2⟩ := info_parts (P := Tryz.prog) (e := 23) (z := .int .u64 0) (size := 1) (bytes := 8) (by kernel_rfl)
  have HA := veil ha
  have HB := veil hb
  have HAb := veil hA
  have HBb := veil hB
  clear ha hb hA hB
  go_enter Tryz.func162, Tryz.ntmps162
  go_wp2_with (with_reducible (show wpList _ _ _ (⟨_, Op.makeSlice _ _ _, _, _, _, _⟩ :: _) _ _)
               refine wpList_make_full w rfl _ _ 96 rfl w.heap.size 23 i0 (.int .u64 0) 1 Tryz.underlying96 hi hz0 hz1 .i64 .i64 34 34 34 rfl rfl rfl rfl (by rw [hz2]; decide) (by unfold maxLen; decide) (Nat.le_refl _) ?_
               intro w6 own6 grow6)
  rw [made_vn] at own6
  have r6 : Row w6 w.heap.size 23 (ns z34) := own_row own6
  have b6 : Below w.heap.size w w6 := (Below.refl _ w).grown grow6 (Nat.le_refl _) (fun q e => by cases e)
  clear own6 grow6
  go_loopw [6] (fun iv wr => ∃ (i : Nat) (zs : List Nat), i ≤ 17 ∧ iv = .int .i64 i ∧ Hid (zs.length = 34) ∧ Hid (∀ m, gn zs m ≤ 17 * i * 65025) ∧ Hid (nK zs 34 = Qik a b i 0) ∧ Row wr w.heap.size 23 (ns zs) ∧ Below w.heap.size w wr)
    (fun iv _ => 17 - (intOf iv).toNat)
  case atStart =>
    refine ⟨0, z34, by omega, rfl, rfl, fun m => by rw [gn_z34]; omega, ?_, r6, b6⟩
    show _ = _
    rw [show Qik a b 0 0 = 0 by simp [Qik, nK]]
    decide +kernel
  case round =>
    clear r6 b6
    obtain ⟨i, zs, hi7, rfl, HL, HM, HE, rZ, hbel⟩ := hrel
    by_cases h17 : i < 17
    · have hdk : decide ((i : Int) < 17) = true := by simp; omega
      go_wp2
      go_loopw [7] (fun kv wr => ∃ (k : Nat) (zs : List Nat), k ≤ 17 ∧ kv = .int .i64 k ∧ Hid (zs.length = 34) ∧ Hid (∀ m, gn zs m ≤ (17 * i + k) * 65025) ∧ Hid (nK zs 34 = Qik a b i k) ∧ Row wr w.heap.size 23 (ns zs) ∧ Below w.heap.size w wr)
        (fun kv _ => 17 - (intOf kv).toNat)
      case atStart => exact ⟨0, zs, by omega, rfl, HL, HM, HE, rZ, hbel⟩
      case round =>
        clear HL HM HE rZ hbel zs
        obtain ⟨k, zs, hk7, rfl, HL, HM, HE, rZ, hbel⟩ := hrel
        by_cases hk17 : k < 17
        · have hdk2 : decide ((k : Int) < 17) = true := by simp; omega
          have ca := (HA.out.below hbel).cell i h17
          have cb := (HB.out.below hbel).cell k hk17
          have cz := rZ.cellN (j := i + k) (by rw [HL.out]; omega)
          have fz := rZ.frozen (i + k)
          obtain ⟨x, hxe⟩ : ∃ x, x = gn a i := ⟨_, rfl⟩
          obtain ⟨y, hye⟩ : ∃ y, y = gn b k := ⟨_, rfl⟩
          have hx8 : x ≤ 255 := by rw [hxe]; exact HAb.out i
          have hy8 : y ≤ 255 := by rw [hye]; exact HBb.out k
          rw [← hxe] at ca
          rw [← hye] at cb
          obtain ⟨z, hz⟩ : ∃ z, z = x * y := ⟨_, rfl⟩
          have hzb : z ≤ 65025 := by rw [hz]; exact Nat.mul_le_mul hx8 hy8
          obtain ⟨v, hve⟩ : ∃ v, v = gn zs (i + k) := ⟨_, rfl⟩
          have HVB : Hid (v ≤ (17 * i + k) * 65025) := show _ ≤ _ by rw [hve]; exact HM.out _
          have hvb : v ≤ 18792225 := Nat.le_trans HVB.out (Nat.mul_le_mul_right 65025 (show 17 * i + k ≤ 289 by omega))
          rw [← hve] at cz
          have hmul : IntKind.u64.wrap ((x : Int) * (y : Int)) = (z : Int) := by
            rw [show (x : Int) * (y : Int) = (z : Int) by rw [hz, Int.natCast_mul], IntKind.wrap_u64]
            omega
          have HN : Hid (nK (zs.set (i + k) (v + z)) 34 = Qik a b i (k + 1)) := show _ = _ by
            rw [hve, nK_set zs (i + k) z (by rw [HL.out]; omega), if_pos (by omega), HE.out, Qik_step, hz, hxe, hye]
          have HM' : Hid (∀ m, gn (zs.set (i + k) (v + z)) m ≤ (17 * i + (k + 1)) * 65025) := show ∀ m, gn (zs.set (i + k) (v + z)) m ≤ (17 * i + (k + 1)) * 65025 from fun m => by
            rw [gn_set]
            split
            · rw [← Nat.add_assoc, Nat.add_mul, Nat.one_mul]
              exact Nat.add_le_add HVB.out hzb
            · exact Nat.le_trans (HM.out m) (Nat.mul_le_mul_right _ (by omega))
          have E1 : Hid ((v : Int) + (z : Int) = ((v + z : Nat) : Int)) := show _ = _ by omega
          have hp1 : (0 : Int) ≤ (i : Int) ∧ (i : Int) < 17 := by omega
          have hp2 : (0 : Int) ≤ (k : Int) ∧ (k : Int) < 17 := by omega
          have hp3 : (0 : Int) ≤ (i : Int) + (k : Int) ∧ (i : Int) + (k : Int) < 34 := by omega
          clear hz hxe hye hve
          go_wp2
          go_region
          go_wp2
          go_roundw
          case rel =>
            rw [E1.out]
            have q3 := rZ.set (i + k) (.int .u64 ((v + z : Nat) : Int))
            rw [ns_set] at q3
            refine ⟨k + 1, _, by omega, by go_num, ?_, HM', HN, q3, Below.drew (hbel.setCell (p := ⟨w.heap.size, i + k, none⟩) (Nat.le_refl _) _)⟩
            show List.length _ = 34
            rw [List.length_set]; exact HL.out
          case measure => simp [intOf]; omega
        · have hdk2 : decide ((k : Int) < 17) = false := by simp; omega
          rw [show k = 17 by omega] at HM HE
          go_wp2
          go_roundw
          case rel => exact ⟨i + 1, zs, by omega, by go_num, HL, HM, show _ = _ by rw [Qik_next]; exact HE.out, rZ, hbel⟩
          case measure => simp [intOf]; omega
    · have hdk : decide ((i : Int) < 17) = false := by simp; omega
      rw [show i = 17 by omega, Qik_all] at HE
      have HV : Hid (nV zs = nV a * nV b) := show _ = _ by
        rw [← nK_out zs 34 (by rw [HL.out]; omega), HE.out, nK_out a 17 (by rw [HA.out.len]; omega), nK_out b 17 (by rw [HB.out.len]; omega)]
      have HC : Hid (∀ i, gn zs i ≤ 1152921504606846976) := show ∀ i, gn zs i ≤ 1152921504606846976 from fun m => Nat.le_trans (HM.out m) (by omega)
      have HNO := veil (NOk.of_row rZ HL.out)
      clear HE HM
      go_wp2_with fail
      refine (refCarried_any w.heap.size 34 zs wr HNO.out HC.out).mono ?_
      rintro e8 w8 ⟨v8', rfl, own8, hb8⟩
      have own9 := own_low own8 hbel.size
      rw [HV.out] at own9
      go_wp2
      go_ret
      exact ⟨_, rfl, own9, hbel.trans (hb8.mono hbel.size)⟩
end Go.Proofs.YtbheoldakmcppaaGreatDoor
