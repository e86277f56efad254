/-
  Out of PlVec, ShaUndPlain, PlAliveB, PlLawP, PlRefP, PlRefC, PlRefA, PlRefM, PlRefF, PlRefN, PlRefR, PlRefL, PlRefT.
-/
import Derived.Test.YtffokggejbmadaaGreatDoorGz5
import Derived.Test.YtffokggejbmadaaGreatDoorGz1
import Derived.Lib.SlBytesConst
import Derived.Laws.OwnMore
import Derived.BigRegion

/-! Tags that the document fixes, and sums of sixteen bytes: no program in sight. -/
namespace Go.Proofs.YtffokggejbmadaaGreatDoor
open Go

def aKey : List By := [133, 214, 190, 120, 87, 85, 109, 51, 127, 68, 82, 254, 66, 213, 6, 168, 1, 3, 128, 138, 251, 13, 178, 253, 74, 191, 246, 175, 65, 73, 245, 27]
def crypt : List By := [67, 114, 121, 112, 116, 111, 103, 114, 97, 112, 104, 105, 99, 32, 70, 111, 114, 117, 109, 32, 82, 101, 115, 101, 97, 114, 99, 104, 32, 71, 114, 111, 117, 112]
def aTag : List By := [168, 6, 29, 193, 48, 81, 54, 198, 194, 43, 139, 175, 12, 1, 39, 169]
def key2 : List By := 2 :: List.replicate 31 0
def key1 : List By := 1 :: List.replicate 31 0
def tag3 : List By := 3 :: List.replicate 15 0
def tag5 : List By := 5 :: List.replicate 15 0
def fiveB : List By := ((List.replicate 16 255 ++ [240]) ++ List.replicate 15 255) ++ ([17] ++ List.replicate 15 0)
theorem vec_a : tagL aKey crypt = aTag := by decide +kernel
theorem vec_3 : tagL key2 (List.replicate 16 255) = tag3 := by decide +kernel
theorem vec_5 : tagL key1 fiveB = tag5 := by decide +kernel
theorem row_aKey : (#[.int .u8 133, .int .u8 214, .int .u8 190, .int .u8 120, .int .u8 87, .int .u8 85, .int .u8 109, .int .u8 51, .int .u8 127, .int .u8 68, .int .u8 82, .int .u8 254, .int .u8 66, .int .u8 213, .int .u8 6, .int .u8 168, .int .u8 1, .int .u8 3, .int .u8 128, .int .u8 138, .int .u8 251, .int .u8 13, .int .u8 178, .int .u8 253, .int .u8 74, .int .u8 191, .int .u8 246, .int .u8 175, .int .u8 65, .int .u8 73, .int .u8 245, .int .u8 27] : Array Value) = bs aKey := by kernel_rfl
theorem row_crypt : (#[.int .u8 67, .int .u8 114, .int .u8 121, .int .u8 112, .int .u8 116, .int .u8 111, .int .u8 103, .int .u8 114, .int .u8 97, .int .u8 112, .int .u8 104, .int .u8 105, .int .u8 99, .int .u8 32, .int .u8 70, .int .u8 111, .int .u8 114, .int .u8 117, .int .u8 109, .int .u8 32, .int .u8 82, .int .u8 101, .int .u8 115, .int .u8 101, .int .u8 97, .int .u8 114, .int .u8 99, .int .u8 104, .int .u8 32, .int .u8 71, .int .u8 114, .int .u8 111, .int .u8 117, .int .u8 112] : Array Value) = bs crypt := by kernel_rfl

/-! ### Sums of sixteen bytes -/
theorem leK_by16 (x : Nat) (k : Nat) (hk : k ≤ 16) : leK (by16 x) k = x % 256 ^ k := by
  induction k with
  | zero => rw [Nat.pow_zero, Nat.mod_one]; rfl
  | succ k ih =>
    have e : gb (by16 x) k = byteAt x k := by simp [by16, gb, show k < 16 by omega]
    rw [show leK (by16 x) (k + 1) = leK (by16 x) k + (gb (by16 x) k).toNat * 256 ^ k from rfl, ih (by omega), e, Nat.mod_pow_succ]
    unfold byteAt
    rw [BitVec.toNat_ofNat, Nat.mul_comm]
theorem leK_div (b : List By) (j : Nat) : ∀ k, j < k → leK b k / 256 ^ j % 256 = (gb b j).toNat
  | 0, h => by omega
  | k + 1, h => by
    rw [show leK b (k + 1) = leK b k + (gb b k).toNat * 256 ^ k from rfl]
    by_cases hj : j = k
    · subst hj
      rw [Nat.mul_comm, Nat.add_mul_div_left _ _ (Nat.pow_pos (by decide)), Nat.div_eq_of_lt (leK_lt b j), Nat.zero_add]
      exact Nat.mod_eq_of_lt (gb b j).isLt
    · rw [byte_stable _ _ (show j < k by omega)]
      exact leK_div b j k (by omega)
theorem by16_leK (b : List By) (h : b.length = 16) : by16 (leK b 16) = b := by
  refine (by16_of h (fun i hi => ?_)).symm
  unfold byteAt
  apply BitVec.eq_of_toNat_eq
  rw [BitVec.toNat_ofNat]
  exact (leK_div b i 16 hi).symm
/-- Two keys with the same r. -/
theorem acc_nil (r : Nat) : accW r (partsTo [] (np 0)) = 0 := rfl
theorem tag_nil (key half : List By) (hh : half.length = 16) (hs : sN key = leK half 16) : tagL key [] = half := by
  unfold tagL tagN
  rw [show ([] : List By).length = 0 from rfl, acc_nil, Nat.zero_add, by16_mod (u := sN key % 340282366920938463463374607431768211456) (v := sN key) (Nat.mod_mod _ _), hs]
  exact by16_leK half hh
theorem tag_adds (key bare half b : List By) (hr : rN bare = rN key) (h0 : sN bare = 0) (hs : sN key = leK half 16) : by16 (sumK (tagL bare b) half 16) = tagL key b := by
  unfold sumK
  rw [show tagL bare b = by16 (tagN bare b) from rfl, leK_by16 _ 16 (Nat.le_refl _), ← hs]
  unfold tagL tagN
  rw [hr, h0, Nat.add_zero]
  apply by16_mod
  rw [show (256 : Nat) ^ 16 = 340282366920938463463374607431768211456 by decide, Nat.mod_mod, Nat.mod_mod, Nat.mod_add_mod]
theorem tag_bare (bare : List By) (h0 : sN bare = 0) : tagL bare [] = List.replicate 16 0 :=
  tag_nil bare (List.replicate 16 0) rfl (by rw [h0]; decide +kernel)
end Go.Proofs.YtffokggejbmadaaGreatDoor

/-! The words of a block, one after another; operations behind a guard that holds. -/
namespace Go.Proofs.YtffokggejbmadaaGreatDoor
open Go Go.RowKit

theorem schedN_at (b : List By) (n j : Nat) (hj : j < 16 + n) : ∀ k, (schedN b (n + k))[j]? = (schedN b n)[j]?
  | 0 => rfl
  | k + 1 => by
    rw [← Nat.add_assoc, schedN, List.getElem?_append_left (by rw [schedN_length]; omega), schedN_at b n j hj k]
theorem sched_low (b : List By) (hb : b.length = 64) (t : Nat) (h : t < 16) : (sched b)[t]? = some (word4 b t) := by
  have := schedN_at b 0 t (by omega) 48
  rw [Nat.zero_add] at this
  unfold sched
  rw [this]
  exact first16_get b t h hb
theorem sched_gw (b : List By) (n j : Nat) (hn : n ≤ 48) (hj : j < 16 + n) : gw (schedN b n) j = gw (sched b) j := by
  have := schedN_at b n j hj (48 - n)
  rw [show n + (48 - n) = 48 by omega] at this
  unfold gw sched
  rw [this]
theorem sched_high (b : List By) (t : Nat) (h0 : 16 ≤ t) (h : t < 64) : (sched b)[t]? = some (ad (ad (ad (s1 (gw (sched b) (t - 2))) (gw (sched b) (t - 7))) (s0 (gw (sched b) (t - 15)))) (gw (sched b) (t - 16))) := by
  obtain ⟨n, rfl⟩ : ∃ n, t = 16 + n := ⟨t - 16, by omega⟩
  have e := schedN_at b (n + 1) (16 + n) (by omega) (48 - (n + 1))
  rw [show n + 1 + (48 - (n + 1)) = 48 by omega] at e
  unfold sched at *
  rw [e, schedN, List.getElem?_append_right (by rw [schedN_length]; omega), schedN_length, Nat.sub_self, List.getElem?_cons_zero]
  unfold nextW
  rw [schedN_length, sched_gw b n _ (by omega) (by omega), sched_gw b n _ (by omega) (by omega), sched_gw b n _ (by omega) (by omega), sched_gw b n _ (by omega) (by omega)]
  rfl

/-- The row of the words while they come. -/
def comeW (b : List By) (t : Nat) : List Wd := (sched b).take t ++ List.replicate (64 - t) 0
theorem comeW_length (b : List By) (t : Nat) (h : t ≤ 64) : (comeW b t).length = 64 := by simp [comeW, sched_length]; omega
theorem comeW_gw (b : List By) (t j : Nat) (h : j < t) (ht : t ≤ 64) : gw (comeW b t) j = gw (sched b) j := by
  unfold gw comeW
  rw [List.getElem?_append_left (by rw [List.length_take, sched_length]; omega), List.getElem?_take_of_lt h]
theorem comeW_set (b : List By) (t : Nat) (h : t < 64) (x : Wd) (hx : (sched b)[t]? = some x) : (comeW b t).set t x = comeW b (t + 1) :=
  fill_set2 (sched b) 0 t 64 (by rw [sched_length]; exact h) h x hx
theorem comeW_all (b : List By) : comeW b 64 = sched b := by
  unfold comeW
  rw [List.take_of_length_le (by rw [sched_length]; exact Nat.le_refl _), Nat.sub_self, List.replicate_zero, List.append_nil]

/-- Each less what the other has. -/
theorem further_less (s k : List Wd) (b : List By) (i : Nat) (h : i < 8) (hs : s.length = 8) : (roundsTo s k (sched b) 64)[i]? = some (sb (gw (furtherL s k b) i) (gw s i)) := by
  have e : gw (furtherL s k b) i = ad (gw s i) (gw (roundsTo s k (sched b) 64) i) := by
    unfold furtherL
    show ((sumS s (roundsTo s k (sched b) 64))[i]?).getD 0 = _
    rw [sumS_get _ _ i h]
    rfl
  have e2 : sb (ad (gw s i) (gw (roundsTo s k (sched b) 64) i)) (gw s i) = gw (roundsTo s k (sched b) 64) i := by
    rw [ad_comm]
    unfold sb ad
    exact BitVec.add_sub_cancel _ _
  rw [e, e2]
  have hl := roundsTo_length s k (sched b) hs 64
  unfold gw
  rw [List.getElem?_eq_getElem (by rw [hl]; exact h)]
  rfl

section
variable {P : Program} {ops : Array Oper} {rest : List Oper} {o : Oper} {a : Act} {w : World} {Q : Exit → Act → World → Prop}
theorem wpList_wanted (hw : Region.wanted o (yielded ops a.tmps) = true)
    (h : ∀ K : Act → World → Prop, (∀ a w, wpList P ops Q rest a w → K a w) → o.wp P a w K Q) : wpList P ops Q (o :: rest) a w :=
  wpList_step fun K hK => by rw [hw, if_pos rfl]; exact h K hK
theorem load_rowG (hgd : Region.wanted o (yielded ops a.tmps) = true) (ty : TypeId) (x : Operand) (ho : o.op = .load ty x)
    (g : Nat) (hx : a.eval x = .pointer (some ⟨g, 0, none⟩)) (t : TypeId) (cs : Array Value) (hg : Row w g t cs) (n : Nat) (e : TypeId)
    (hu : P.underlying ty = some (.array n e)) (hi : (P.info? ty).map (·.size) = some n) (hc : cs.size = n)
    (h : wpList P ops Q rest (a.put o.dst (.agg cs)) w) : wpList P ops Q (o :: rest) a w :=
  wpList_wanted hgd fun _ hK => wp_load_row ty x ho g hx t cs (0, 0) _ hg hu rfl (by rw [hc]; exact hi) (hK _ _ h)
theorem value_G (hgd : Region.wanted o (yielded ops a.tmps) = true) (v : Value) (hv : (execOp a.eval o).run P w = .ok (.value v) w)
    (h : wpList P ops Q rest (a.put o.dst v) w) : wpList P ops Q (o :: rest) a w :=
  wpList_wanted hgd fun _ hK => by unfold Oper.wp; rw [hv, Oper.upon_value]; exact hK _ _ h
end
end Go.Proofs.YtffokggejbmadaaGreatDoor

/-! Rows as slices; a row built behind a guard. -/
namespace Go.Proofs.YtffokggejbmadaaGreatDoor
open Go Go.RowKit

def z32 : List By := List.replicate 32 0
theorem rowF_ok {w : World} {g n : Nat} {t : TypeId} {b : List By} {fr : Nat × Nat} (h : w.heap[g]? = some (.cells (bs b) t fr)) (hn : b.length = n) : (rowN g n b).Ok w := by
  subst hn
  refine ⟨rfl, Nat.le_refl _, fun e => by simp [rowN] at e, fun _ => rfl, fun _ => (Array.getElem?_eq_some_iff.1 h).1, fun j hj => ?_⟩
  show w.cell? ⟨g, 0 + j, none⟩ = _
  rw [Nat.zero_add, cell_of_row w g j (bs b) t fr h]
  exact bs_get b j hj

theorem build_rowG {P : Program} {ops : Array Oper} {rest : List Oper} {o : Oper} {a : Act} {w : World} {Q : Exit → Act → World → Prop} (hgd : Region.wanted o (yielded ops a.tmps) = true) (t : TypeId) (parts : Array (Nat × Operand)) (ho : o.op = .build t parts)
    (cs : Array Value) (hb : P.built t (parts.map fun (i, x) => (i, a.eval x)).toList = some cs) (h : wpList P ops Q rest (a.put o.dst (.agg cs)) w) : wpList P ops Q (o :: rest) a w :=
  wpList_wanted hgd fun _ hK => wp_build t parts ho (by rw [hb]; rfl) (by rw [hb]; exact hK _ _ h)
theorem own_sl {w : World} {base : Nat} {v : Value} {n : Nat} {xs : List By} (h : w.ownsRow base 5 1 v n (vb xs)) : ∃ s : SL, v = .slice s.a s.len s.cap ∧ s.len = n ∧ s.b = xs ∧ s.Ok w := by
  obtain ⟨s, h1, h2, h3, h4, _⟩ := SL.of_own h
  exact ⟨s, h1.symm, h2, h3, h4⟩

end Go.Proofs.YtffokggejbmadaaGreatDoor

/-! Keys and tags, on lists: no program in sight. -/
namespace Go.Proofs.YtffokggejbmadaaGreatDoor
open Go Go.RowKit

def nilS : SL := ⟨none, 0, 0, 0, 0, []⟩
theorem nilS_ok (w : World) : nilS.Ok w := ⟨rfl, Nat.le_refl _, fun _ => ⟨rfl, rfl⟩, fun h => absurd h (Nat.lt_irrefl _), fun h => absurd h (Nat.lt_irrefl _), fun _ h => absurd h (Nat.not_lt_zero _)⟩
theorem rN_congr {key bare : List By} (h : ∀ i, i < 16 → gb bare i = gb key i) : rN bare = rN key := by
  unfold rN
  refine leK_congr 16 (fun i hi => ?_)
  rw [clL_get _ _ hi, clL_get _ _ hi]
  unfold clB
  rw [h i hi]
theorem sN_of {key half : List By} (hk : key.length = 32) (h : ∀ i, i < 16 → gb half i = gb key (16 + i)) : sN key = leK half 16 := by
  unfold sN leN
  rw [show ((key.drop 16).take 16).length = 16 by rw [List.length_take, List.length_drop, hk]; rfl]
  refine leK_congr 16 (fun i hi => ?_)
  rw [gb_cut _ _ _ _ hi, h i hi]
theorem leK_zeros (k : Nat) (b : List By) (h : ∀ i, i < k → gb b i = 0) : leK b k = 0 := by
  induction k with
  | zero => rfl
  | succ k ih =>
    rw [show leK b (k + 1) = leK b k + (gb b k).toNat * 256 ^ k from rfl, ih (fun i hi => h i (by omega)), h k (by omega)]
    simp
theorem sN_zero {bare : List By} (hk : bare.length = 32) (h : ∀ i, i < 16 → gb bare (16 + i) = 0) : sN bare = 0 := by
  unfold sN leN
  rw [show ((bare.drop 16).take 16).length = 16 by rw [List.length_take, List.length_drop, hk]; rfl]
  exact leK_zeros 16 _ (fun i hi => by rw [gb_cut _ _ _ _ hi, h i hi])
end Go.Proofs.YtffokggejbmadaaGreatDoor

/-! Numbers as lists of places below 256: no program in sight. -/
namespace Go.Proofs.YtffokggejbmadaaGreatDoor
open Go

/-- The number of the first k places. -/
def nK (a : List Nat) : Nat → Nat
  | 0 => 0
  | k + 1 => nK a k + gn a k * 256 ^ k
/-- The number of a list. -/
def nV (a : List Nat) : Nat := nK a a.length
/-- The first k places of a number. -/
def dig (v k : Nat) : List Nat := (List.range k).map fun i => v / 256 ^ i % 256
theorem dig_length (v k : Nat) : (dig v k).length = k := by simp [dig]
theorem dig_get (v k i : Nat) (h : i < k) : gn (dig v k) i = v / 256 ^ i % 256 := by simp [dig, gn, h]
theorem dig_succ (v k : Nat) : dig v (k + 1) = dig v k ++ [v / 256 ^ k % 256] := by
  unfold dig
  rw [List.range_succ, List.map_append]
  rfl
theorem dig_lt (v k i : Nat) : gn (dig v k) i < 256 := by
  by_cases h : i < k
  · rw [dig_get _ _ _ h]
    exact Nat.mod_lt _ (by decide)
  · rw [gn_out (by rw [dig_length]; omega)]
    decide
theorem nK_dig (v n : Nat) : ∀ k, k ≤ n → nK (dig v n) k = v % 256 ^ k
  | 0, _ => by rw [Nat.pow_zero, Nat.mod_one]; rfl
  | k + 1, h => by
    rw [show nK (dig v n) (k + 1) = nK (dig v n) k + gn (dig v n) k * 256 ^ k from rfl, nK_dig v n k (by omega), dig_get _ _ _ (by omega), Nat.mod_pow_succ, Nat.mul_comm]
theorem nV_dig (v n : Nat) (h : v < 256 ^ n) : nV (dig v n) = v := by
  unfold nV
  rw [dig_length, nK_dig v n n (Nat.le_refl _), Nat.mod_eq_of_lt h]
theorem nK_congr {a b : List Nat} (k : Nat) (h : ∀ i, i < k → gn a i = gn b i) : nK a k = nK b k := by
  induction k with
  | zero => rfl
  | succ k ih =>
    rw [show nK a (k + 1) = nK a k + gn a k * 256 ^ k from rfl, ih (fun i hi => h i (by omega)), h k (by omega)]
    rfl
theorem dig_stable (v m : Nat) {j k : Nat} (h : j < k) : (v + m * 256 ^ k) / 256 ^ j % 256 = v / 256 ^ j % 256 := byte_stable v m h
theorem dig_more (v m k : Nat) : dig (v + m * 256 ^ k) k = dig v k := by
  unfold dig
  apply List.map_congr_left
  intro i hi
  exact dig_stable v m (List.mem_range.1 hi)
/-- What is carried when k places are done. -/
theorem more_step (a : List Nat) (k : Nat) : nK a (k + 1) / 256 ^ k = nK a k / 256 ^ k + gn a k := by
  rw [show nK a (k + 1) = nK a k + gn a k * 256 ^ k from rfl, Nat.mul_comm (gn a k), Nat.add_mul_div_left _ _ (Nat.pow_pos (by decide))]
theorem dig_step (a : List Nat) (k : Nat) : dig (nK a (k + 1)) (k + 1) = dig (nK a k) k ++ [(nK a k / 256 ^ k + gn a k) % 256] := by
  rw [dig_succ, more_step, show nK a (k + 1) = nK a k + gn a k * 256 ^ k from rfl, dig_more]
theorem more_next (a : List Nat) (k : Nat) : nK a (k + 1) / 256 ^ (k + 1) = (nK a k / 256 ^ k + gn a k) / 256 := by
  rw [Nat.pow_succ, ← Nat.div_div_eq_div_mul, more_step]
theorem more_le (a : List Nat) (C : Nat) (hC : ∀ i, gn a i ≤ C) : ∀ k, nK a k / 256 ^ k ≤ C
  | 0 => by show 0 / 1 ≤ C; omega
  | k + 1 => by
    rw [more_next]
    have h1 := more_le a C hC k
    have h2 := hC k
    omega
/-- The cells of numbers. -/
def vn (xs : List Nat) : List Value := xs.map fun (x : Nat) => Value.int .u64 (x : Int)
theorem vn_length (xs : List Nat) : (vn xs).length = xs.length := by simp [vn]
theorem vn_append (a b : List Nat) : vn (a ++ b) = vn a ++ vn b := by simp [vn]
theorem vn_get (xs : List Nat) (j : Nat) (h : j < xs.length) : (vn xs)[j]? = some (.int .u64 (gn xs j : Int)) := by simp [vn, gn, h]
end Go.Proofs.YtffokggejbmadaaGreatDoor

/-! What mailcoachref05.carried answers. -/
namespace Go.Proofs.YtffokggejbmadaaGreatDoor
open Go Go.RowKit

/-- A block that begins with numbers. -/
structure NOk (w : World) (g n : Nat) (xs : List Nat) : Prop where
  len : xs.length = n
  lt : g < w.heap.size
  cell : ∀ j, j < n → w.cell? ⟨g, j, none⟩ = some (.int .u64 (gn xs j : Int))
theorem NOk.below {w w' : World} {g n : Nat} {xs : List Nat} (h : NOk w g n xs) (hb : Below w.heap.size w w') : NOk w' g n xs :=
  ⟨h.len, Nat.lt_of_lt_of_le h.lt hb.size, fun j hj => (hb.cell (p := ⟨g, j, none⟩) h.lt).trans (h.cell j hj)⟩
theorem NOk.of_own {w : World} {base g n cap : Nat} {xs : List Nat} (h : w.ownsRow base 75 1 (.slice (some ⟨g, 0, none⟩) n cap) n (vn xs)) : NOk w g n xs := by
  have hl : xs.length = n := by have := h.1; rw [vn_length] at this; omega
  refine ⟨hl, ?_, fun j hj => ?_⟩
  · rcases h.2 with ⟨h1, _⟩ | ⟨g', c', cur, h1, _, h3, _⟩
    · cases h1
    · simp only [Value.slice.injEq, Option.some.injEq, Addr.mk.injEq, and_true, true_and] at h1
      obtain ⟨rfl, rfl⟩ := h1
      exact (Array.getElem?_eq_some_iff.1 h3).1
  · rw [h.cellAt j (by omega), vn_get xs j (by omega)]

set_option maxRecDepth 20000 in
set_option maxHeartbeats 1000000 in
theorem refCarried_any (g cap : Nat) (xs : List Nat) (w : World) (hx : NOk w g 34 xs) (hC : ∀ i, gn xs i ≤ 1152921504606846976) :
    Calls Tryz.prog 128 #[.slice (some ⟨g, 0, none⟩) 34 cap, .int .i64 34] w fun e w' => ∃ v, e = .returned v ∧ w'.ownsRow w.heap.size 75 1 v 34 (vn (dig (nV xs) 34)) ∧ Below w.heap.size w w' := by
  obtain ⟨i0, hi, hz0, hz1, hz2⟩ := info_parts (P := Tryz.prog) (e := 75) (z := .int .u64 0) (size := 1) (bytes := 8) (by kernel_rfl)
  have HX := veil hx
  have HC := veil hC
  clear hx hC
  go_enter Tryz.func128, Tryz.ntmps128
  go_wp2
  go_loopw [5, 6, 7] (fun v mv iv wr => ∃ (k : Nat) (a : Option Addr) (cp : Nat), k ≤ 34 ∧ iv = .int .i64 k ∧ mv = .int .u64 ((nK xs k / 256 ^ k : Nat) : Int) ∧ v = .slice a k cp ∧ wr.ownsRow w.heap.size 75 1 (.slice a k cp) k (vn (dig (nK xs k) k)) ∧ Below w.heap.size w wr)
    (fun _ _ iv _ => 34 - (intOf iv).toNat)
  case atStart => exact ⟨0, none, 0, by omega, rfl, by simp [nK], rfl, World.ownsRow_nil _ _ _ _, Below.refl _ _⟩
  case round =>
    obtain ⟨k, a2, c2, hk, rfl, rfl, rfl, hown, hbel⟩ := hrel
    have HOWN := veil hown
    have HB := veil hbel
    have hsz := hbel.size
    have HCX := veil (HX.out.below hbel)
    clear hown hbel
    by_cases hlt : k < 34
    · have hdk : decide ((k : Int) < 34) = true := by simp; omega
      have cx := HCX.out.cell k hlt
      obtain ⟨x, hxe⟩ : ∃ x, x = gn xs k := ⟨_, rfl⟩
      have hxb : x ≤ 1152921504606846976 := by rw [hxe]; exact HC.out k
      obtain ⟨m, hme⟩ : ∃ m, m = nK xs k / 256 ^ k := ⟨_, rfl⟩
      have hmb : m ≤ 1152921504606846976 := by rw [hme]; exact more_le xs _ HC.out k
      rw [← hxe] at cx
      rw [← hme]
      have HD : Hid (dig (nK xs (k + 1)) (k + 1) = dig (nK xs k) k ++ [(m + x) % 256]) := show _ = _ by rw [dig_step, hme, hxe]
      have HN : Hid (((m : Int) + (x : Int)) / 256 = ((nK xs (k + 1) / 256 ^ (k + 1) : Nat) : Int)) := show _ = _ by
        rw [more_next, ← hme, ← hxe]
        omega
      have E1 : Hid (((m : Int) + (x : Int)) % 256 = (((m + x) % 256 : Nat) : Int)) := show _ = _ by omega
      clear hxe hme
      go_wp2_with (with_reducible (show wpList _ _ _ (⟨some 27, Op.call _, _, _, _, _⟩ :: _) _ _)
                   refine wpList_append_own _ rfl _ _ 80 rfl w.heap.size 75 i0 (.int .u64 0) 1 8 Tryz.underlying80 hi hz0 hz1 hz2 rfl (by decide) _ k _ rfl (HOWN.out.alloc _) ⟨wr.heap.size, 0, none⟩ 1 1 [.int .u64 (((m : Int) + (x : Int)) % 256)] rfl rfl (cell_one_new _ _ _) (by simp [Value.oneCell']) (by unfold maxLen; omega) (by omega) (by simp; omega) ?_
                   intro v5 w5 hown5 hgrow5 _
                   obtain ⟨a5, c5, rfl⟩ := own_shape hown5)
      rw [HN.out]
      refine ⟨⟨k + 1, a5, c5, by omega, by go_num, rfl, rfl, ?_, (HB.out.alloc hsz _).grown hgrow5 (by simp; omega) (fun q e => ((HOWN.out.alloc (.cells #[] 75)).lt q e).1)⟩, by simp [intOf]; omega⟩
      rw [HD.out, vn_append]
      rw [E1.out] at hown5
      exact hown5
    · have hdk : decide ((k : Int) < 34) = false := by simp; omega
      obtain rfl : k = 34 := by omega
      have HE : Hid (nK xs 34 = nV xs) := show _ = _ by unfold nV; rw [HX.out.len]
      go_wp2
      go_ret
      exact ⟨_, rfl, by rw [← HE.out]; exact HOWN.out, HB.out⟩
end Go.Proofs.YtffokggejbmadaaGreatDoor

/-! What mailcoachref05.add answers. -/
namespace Go.Proofs.YtffokggejbmadaaGreatDoor
open Go Go.RowKit

/-- 34 places 0. -/
def z34 : List Nat := List.replicate 34 0
theorem gn_z34 (i : Nat) : gn z34 i = 0 := by
  unfold gn z34
  rw [List.getElem?_replicate]
  split <;> rfl
theorem nK_add (a b c : List Nat) (k : Nat) (h : ∀ i, i < k → gn c i = gn a i + gn b i) : nK c k = nK a k + nK b k := by
  induction k with
  | zero => rfl
  | succ k ih =>
    rw [show nK c (k + 1) = nK c k + gn c k * 256 ^ k from rfl, ih (fun i hi => h i (by omega)), h k (by omega), show nK a (k + 1) = nK a k + gn a k * 256 ^ k from rfl, show nK b (k + 1) = nK b k + gn b k * 256 ^ k from rfl, Nat.add_mul]
    omega
theorem nK_out (a : List Nat) (k : Nat) (h : a.length ≤ k) : nK a k = nV a := by
  unfold nV
  have : ∀ d, nK a (a.length + d) = nK a a.length := by
    intro d
    induction d with
    | zero => rfl
    | succ d ih =>
      rw [show a.length + (d + 1) = (a.length + d) + 1 by omega, show nK a (a.length + d + 1) = nK a (a.length + d) + gn a (a.length + d) * 256 ^ (a.length + d) from rfl, ih, gn_out (by omega), Nat.zero_mul, Nat.add_zero]
  rw [show k = a.length + (k - a.length) by omega, this]
theorem made_vn (n : Nat) : (madeCells (Value.int .u64 0).cells (n * 1)).toList = vn (List.replicate n 0) := by
  apply List.ext_getElem
  · simp [madeCells, vn]
  · intro j h1 h2
    simp [madeCells, vn, Value.cells, Nat.mod_one]

/-- A row of the call's own that is full. -/
theorem own_row {w : World} {base g n : Nat} {xs : List Nat} (h : w.ownsRow base 75 1 (.slice (some ⟨g, 0, none⟩) n n) n (vn xs)) : Row w g 75 (ns xs) := by
  rcases h.2 with ⟨h1, _⟩ | ⟨g', c', cur, h1, _, h3, _, _, h6, h7⟩
  · cases h1
  · simp only [Value.slice.injEq, Option.some.injEq, Addr.mk.injEq, and_true, true_and] at h1
    obtain ⟨rfl, rfl⟩ := h1
    rw [List.take_of_length_le (by rw [Array.length_toList, h6]; exact Nat.le_refl _)] at h7
    have e : cur = ns xs := by
      apply Array.ext'
      rw [h7]
      rfl
    rw [e] at h3
    exact h3
theorem NOk.of_row {w : World} {g n : Nat} {t : TypeId} {xs : List Nat} (h : Row w g t (ns xs)) (hn : xs.length = n) : NOk w g n xs := ⟨hn, h.lt, fun j hj => h.cellN (by omega)⟩

set_option maxRecDepth 20000 in
set_option maxHeartbeats 1000000 in
theorem refAdd_any (ga na ca : Nat) (a : List Nat) (gb' nb' cb : Nat) (b : List Nat) (w : World) (ha : NOk w ga na a) (hb : NOk w gb' nb' b) (hna : na ≤ 34) (hnb : nb' ≤ 34) (hA : ∀ i, gn a i ≤ 255) (hB : ∀ i, gn b i ≤ 255) :
    Calls Tryz.prog 116 #[.slice (some ⟨ga, 0, none⟩) na ca, .slice (some ⟨gb', 0, none⟩) nb' cb] w fun e w' => ∃ v, e = .returned v ∧ w'.ownsRow w.heap.size 75 1 v 34 (vn (dig (nV a + nV b) 34)) ∧ Below w.heap.size w w' := by
  obtain ⟨i0, hi, hz0, hz1, hz2⟩ := info_parts (P := Tryz.prog) (e := 75) (z := .int .u64 0) (size := 1) (bytes := 8) (by kernel_rfl)
  have HA := veil ha
  have HB := veil hb
  have HAb := veil hA
  have HBb := veil hB
  clear ha hb hA hB
  go_enter Tryz.func116, Tryz.ntmps116
  go_wp2_with (with_reducible (show wpList _ _ _ (⟨_, Op.makeSlice _ _ _, _, _, _, _⟩ :: _) _ _)
               refine wpList_make_full w rfl _ _ 80 rfl w.heap.size 75 i0 (.int .u64 0) 1 Tryz.underlying80 hi hz0 hz1 .i64 .i64 34 34 34 rfl rfl rfl rfl (by rw [hz2]; decide) (by unfold maxLen; decide) (Nat.le_refl _) ?_
               intro w6 own6 grow6)
  rw [made_vn] at own6
  have r6 : Row w6 w.heap.size 75 (ns z34) := own_row own6
  have b6 : Below w.heap.size w w6 := (Below.refl _ w).grown grow6 (Nat.le_refl _) (fun q e => by cases e)
  clear own6 grow6
  go_loopw [6] (fun iv wr => ∃ (k : Nat) (zs : List Nat), k ≤ na ∧ iv = .int .i64 k ∧ Hid (zs.length = 34) ∧ Hid (∀ i, gn zs i = if i < k then gn a i else 0) ∧ Row wr w.heap.size 75 (ns zs) ∧ Below w.heap.size w wr)
    (fun iv _ => na - (intOf iv).toNat)
  case atStart => exact ⟨0, z34, by omega, rfl, rfl, fun i => by rw [if_neg (by omega), gn_z34], r6, b6⟩
  case round =>
    clear r6 b6
    obtain ⟨k, zs, hk, rfl, HL, HE, rZ, hbel⟩ := hrel
    by_cases hlt : k < na
    · have hdk : decide ((k : Int) < (na : Int)) = true := by simp; omega
      have cx := (HA.out.below hbel).cell k hlt
      have cz := rZ.cellN (j := k) (by rw [HL.out]; omega)
      have fz := rZ.frozen k
      rw [HE.out k, if_neg (by omega)] at cz
      obtain ⟨x, hxe⟩ : ∃ x, x = gn a k := ⟨_, rfl⟩
      have hxb : x ≤ 255 := by rw [hxe]; exact HAb.out k
      rw [← hxe] at cx
      have HX := veil hxe
      have hgne : Hid (ga ≠ w.heap.size) := show _ ≠ _ by have := HA.out.lt; omega
      have hp : (0 : Int) ≤ (k : Int) ∧ (k : Int) < 34 := by omega
      have hp2 : (0 : Int) ≤ (k : Int) ∧ (k : Int) < (na : Int) := by omega
      clear hxe
      go_wp2
      go_region
      go_wp2
      go_roundw
      case rel =>
        have qZ := rZ.set k (.int .u64 (x : Int))
        rw [ns_set] at qZ
        refine ⟨k + 1, _, by omega, by go_num, ?_, ?_, qZ, Below.drew (hbel.setCell (p := ⟨w.heap.size, k, none⟩) (Nat.le_refl _) _)⟩
        · show List.length _ = 34
          rw [List.length_set]; exact HL.out
        · intro i
          rw [gn_set, HE.out i, HX.out, HL.out]
          by_cases hi : k = i ∧ i < 34
          · rw [if_pos hi, if_pos (by omega), hi.1]
          · rw [if_neg hi]
            by_cases h2 : i < k
            · rw [if_pos h2, if_pos (by omega)]
            · rw [if_neg h2, if_neg (by omega)]
      case measure => simp [intOf]; omega
    · have hdk : decide ((k : Int) < (na : Int)) = false := by simp; omega
      rw [show k = na by omega] at HE
      have HE2 : Hid (∀ i, gn zs i = gn a i) := show ∀ i, gn zs i = gn a i from fun i => by
        rw [HE.out i]
        split
        · rfl
        · rw [gn_out (by rw [HA.out.len]; omega)]
      clear HE
      go_wp2
      go_loopw [7] (fun iv wr => ∃ (k : Nat) (ys : List Nat), k ≤ nb' ∧ iv = .int .i64 k ∧ Hid (ys.length = 34) ∧ Hid (∀ i, gn ys i = gn a i + if i < k then gn b i else 0) ∧ Row wr w.heap.size 75 (ns ys) ∧ Below w.heap.size w wr)
        (fun iv _ => nb' - (intOf iv).toNat)
      case atStart => exact ⟨0, zs, by omega, rfl, HL, fun i => by rw [if_neg (by omega), Nat.add_zero, HE2.out], rZ, hbel⟩
      case round =>
        clear rZ hbel HL HE2 hdk
        obtain ⟨k, ys, hk, rfl, HL, HE, rZ, hbel⟩ := hrel
        by_cases hlt : k < nb'
        · have hdk : decide ((k : Int) < (nb' : Int)) = true := by simp; omega
          have cx := (HB.out.below hbel).cell k hlt
          have cz := rZ.cellN (j := k) (by rw [HL.out]; omega)
          have fz := rZ.frozen k
          rw [HE.out k, if_neg (by omega), Nat.add_zero] at cz
          obtain ⟨x, hxe⟩ : ∃ x, x = gn b k := ⟨_, rfl⟩
          have hxb : x ≤ 255 := by rw [hxe]; exact HBb.out k
          rw [← hxe] at cx
          obtain ⟨y, hye⟩ : ∃ y, y = gn a k := ⟨_, rfl⟩
          have hyb : y ≤ 255 := by rw [hye]; exact HAb.out k
          rw [← hye] at cz
          have HX := veil hxe
          have HYy := veil hye
          have hp : (0 : Int) ≤ (k : Int) ∧ (k : Int) < 34 := by omega
          have hp2 : (0 : Int) ≤ (k : Int) ∧ (k : Int) < (nb' : Int) := by omega
          have E1 : Hid ((y : Int) + (x : Int) = ((y + x : Nat) : Int)) := show _ = _ by omega
          clear hxe hye
          go_wp2
          go_region
          go_wp2
          go_roundw
          case rel =>
            rw [E1.out]
            have qZ := rZ.set k (.int .u64 ((y + x : Nat) : Int))
            rw [ns_set] at qZ
            refine ⟨k + 1, _, by omega, by go_num, ?_, ?_, qZ, Below.drew (hbel.setCell (p := ⟨w.heap.size, k, none⟩) (Nat.le_refl _) _)⟩
            · show List.length _ = 34
              rw [List.length_set]; exact HL.out
            · intro i
              rw [gn_set, HE.out i, HX.out, HYy.out, HL.out]
              by_cases hi : k = i ∧ i < 34
              · rw [if_pos hi, if_pos (by omega), hi.1]
              · rw [if_neg hi]
                by_cases h2 : i < k
                · rw [if_pos h2, if_pos (by omega)]
                · rw [if_neg h2, if_neg (by omega)]
          case measure => simp [intOf]; omega
        · have hdk : decide ((k : Int) < (nb' : Int)) = false := by simp; omega
          rw [show k = nb' by omega] at HE
          have HE2 : Hid (∀ i, gn ys i = gn a i + gn b i) := show ∀ i, gn ys i = gn a i + gn b i from fun i => by
            rw [HE.out i]
            split
            · rfl
            · rw [gn_out (xs := b) (by rw [HB.out.len]; omega)]
          have HV : Hid (nV ys = nV a + nV b) := show _ = _ by
            rw [← nK_out ys 34 (by rw [HL.out]; omega), ← nK_out a 34 (by rw [HA.out.len]; exact hna), ← nK_out b 34 (by rw [HB.out.len]; exact hnb)]
            exact nK_add a b ys 34 (fun i _ => HE2.out i)
          have HC : Hid (∀ i, gn ys i ≤ 1152921504606846976) := show ∀ i, gn ys i ≤ 1152921504606846976 from fun i => by
            rw [HE2.out i]
            have h1 := HAb.out i
            have h2 := HBb.out i
            omega
          have HNO := veil (NOk.of_row rZ HL.out)
          clear HE HE2
          go_wp2_with fail
          refine (refCarried_any w.heap.size 34 ys wr HNO.out HC.out).mono ?_
          rintro e8 w8 ⟨v8', rfl, own8, hb8⟩
          have own9 := own_low own8 hbel.size
          rw [HV.out] at own9
          go_wp2
          go_ret
          exact ⟨_, rfl, own9, hbel.trans (hb8.mono hbel.size)⟩
end Go.Proofs.YtffokggejbmadaaGreatDoor

/-! What mailcoachref05.mul answers. -/
namespace Go.Proofs.YtffokggejbmadaaGreatDoor
open Go Go.RowKit

theorem nK_set (zs : List Nat) (m x : Nat) (hm : m < zs.length) : ∀ K, nK (zs.set m (gn zs m + x)) K = nK zs K + if m < K then x * 256 ^ m else 0
  | 0 => by rw [if_neg (by omega)]; rfl
  | K + 1 => by
    rw [show nK (zs.set m (gn zs m + x)) (K + 1) = nK (zs.set m (gn zs m + x)) K + gn (zs.set m (gn zs m + x)) K * 256 ^ K from rfl, nK_set zs m x hm K, show nK zs (K + 1) = nK zs K + gn zs K * 256 ^ K from rfl]
    by_cases h : m = K
    · subst h
      rw [if_neg (by omega), if_pos (by omega), gn_set_same hm, Nat.add_mul]
      omega
    · rw [gn_set_ne h]
      by_cases h2 : m < K
      · rw [if_pos h2, if_pos (by omega)]
        omega
      · rw [if_neg h2, if_neg (by omega)]
        omega
/-- The sum, when all below (i, k) is in it. -/
def Qik (a b : List Nat) (i k : Nat) : Nat := nK a i * nK b 17 + gn a i * 256 ^ i * nK b k
theorem Qik_step (a b : List Nat) (i k : Nat) : Qik a b i (k + 1) = Qik a b i k + gn a i * gn b k * 256 ^ (i + k) := by
  unfold Qik
  rw [show nK b (k + 1) = nK b k + gn b k * 256 ^ k from rfl, Nat.mul_add, Nat.pow_add, ← Nat.add_assoc]
  congr 1
  simp only [Nat.mul_assoc, Nat.mul_left_comm]
theorem Qik_next (a b : List Nat) (i : Nat) : Qik a b (i + 1) 0 = Qik a b i 17 := by
  unfold Qik
  rw [show nK b 0 = 0 from rfl, Nat.mul_zero, Nat.add_zero, show nK a (i + 1) = nK a i + gn a i * 256 ^ i from rfl, Nat.add_mul]
theorem Qik_all (a b : List Nat) : Qik a b 17 0 = nK a 17 * nK b 17 := by
  unfold Qik
  rw [show nK b 0 = 0 from rfl, Nat.mul_zero, Nat.add_zero]

set_option maxRecDepth 20000 in
set_option maxHeartbeats 2000000 in
theorem refMul_any (ga ca : Nat) (a : List Nat) (gb' cb : Nat) (b : List Nat) (w : World) (ha : NOk w ga 17 a) (hb : NOk w gb' 17 b) (hA : ∀ i, gn a i ≤ 255) (hB : ∀ i, gn b i ≤ 255) :
    Calls Tryz.prog 118 #[.slice (some ⟨ga, 0, none⟩) 17 ca, .slice (some ⟨gb', 0, none⟩) 17 cb] w fun e w' => ∃ v, e = .returned v ∧ w'.ownsRow w.heap.size 75 1 v 34 (vn (dig (nV a * nV b) 34)) ∧ Below w.heap.size w w' := by
  obtain ⟨i0, hi, hz0, hz1, hz2⟩ := info_parts (P := Tryz.prog) (e := 75) (z := .int .u64 0) (size := 1) (bytes := 8) (by kernel_rfl)
  have HA := veil ha
  have HB := veil hb
  have HAb := veil hA
  have HBb := veil hB
  clear ha hb hA hB
  go_enter Tryz.func118, Tryz.ntmps118
  go_wp2_with (with_reducible (show wpList _ _ _ (⟨_, Op.makeSlice _ _ _, _, _, _, _⟩ :: _) _ _)
               refine wpList_make_full w rfl _ _ 80 rfl w.heap.size 75 i0 (.int .u64 0) 1 Tryz.underlying80 hi hz0 hz1 .i64 .i64 34 34 34 rfl rfl rfl rfl (by rw [hz2]; decide) (by unfold maxLen; decide) (Nat.le_refl _) ?_
               intro w6 own6 grow6)
  rw [made_vn] at own6
  have r6 : Row w6 w.heap.size 75 (ns z34) := own_row own6
  have b6 : Below w.heap.size w w6 := (Below.refl _ w).grown grow6 (Nat.le_refl _) (fun q e => by cases e)
  clear own6 grow6
  go_loopw [6] (fun iv wr => ∃ (i : Nat) (zs : List Nat), i ≤ 17 ∧ iv = .int .i64 i ∧ Hid (zs.length = 34) ∧ Hid (∀ m, gn zs m ≤ 17 * i * 65025) ∧ Hid (nK zs 34 = Qik a b i 0) ∧ Row wr w.heap.size 75 (ns zs) ∧ Below w.heap.size w wr)
    (fun iv _ => 17 - (intOf iv).toNat)
  case atStart =>
    refine ⟨0, z34, by omega, rfl, rfl, fun m => by rw [gn_z34]; omega, ?_, r6, b6⟩
    show _ = _
    rw [show Qik a b 0 0 = 0 by simp [Qik, nK]]
    decide +kernel
  case round =>
    clear r6 b6
    obtain ⟨i, zs, hi7, rfl, HL, HM, HE, rZ, hbel⟩ := hrel
    by_cases h17 : i < 17
    · have hdk : decide ((i : Int) < 17) = true := by simp; omega
      go_wp2
      go_loopw [7] (fun kv wr => ∃ (k : Nat) (zs : List Nat), k ≤ 17 ∧ kv = .int .i64 k ∧ Hid (zs.length = 34) ∧ Hid (∀ m, gn zs m ≤ (17 * i + k) * 65025) ∧ Hid (nK zs 34 = Qik a b i k) ∧ Row wr w.heap.size 75 (ns zs) ∧ Below w.heap.size w wr)
        (fun kv _ => 17 - (intOf kv).toNat)
      case atStart => exact ⟨0, zs, by omega, rfl, HL, HM, HE, rZ, hbel⟩
      case round =>
        clear HL HM HE rZ hbel zs
        obtain ⟨k, zs, hk7, rfl, HL, HM, HE, rZ, hbel⟩ := hrel
        by_cases hk17 : k < 17
        · have hdk2 : decide ((k : Int) < 17) = true := by simp; omega
          have ca := (HA.out.below hbel).cell i h17
          have cb := (HB.out.below hbel).cell k hk17
          have cz := rZ.cellN (j := i + k) (by rw [HL.out]; omega)
          have fz := rZ.frozen (i + k)
          obtain ⟨x, hxe⟩ : ∃ x, x = gn a i := ⟨_, rfl⟩
          obtain ⟨y, hye⟩ : ∃ y, y = gn b k := ⟨_, rfl⟩
          have hx8 : x ≤ 255 := by rw [hxe]; exact HAb.out i
          have hy8 : y ≤ 255 := by rw [hye]; exact HBb.out k
          rw [← hxe] at ca
          rw [← hye] at cb
          obtain ⟨z, hz⟩ : ∃ z, z = x * y := ⟨_, rfl⟩
          have hzb : z ≤ 65025 := by rw [hz]; exact Nat.mul_le_mul hx8 hy8
          obtain ⟨v, hve⟩ : ∃ v, v = gn zs (i + k) := ⟨_, rfl⟩
          have HVB : Hid (v ≤ (17 * i + k) * 65025) := show _ ≤ _ by rw [hve]; exact HM.out _
          have hvb : v ≤ 18792225 := Nat.le_trans HVB.out (Nat.mul_le_mul_right 65025 (show 17 * i + k ≤ 289 by omega))
          rw [← hve] at cz
          have hmul : IntKind.u64.wrap ((x : Int) * (y : Int)) = (z : Int) := by
            rw [show (x : Int) * (y : Int) = (z : Int) by rw [hz, Int.natCast_mul], IntKind.wrap_u64]
            omega
          have HN : Hid (nK (zs.set (i + k) (v + z)) 34 = Qik a b i (k + 1)) := show _ = _ by
            rw [hve, nK_set zs (i + k) z (by rw [HL.out]; omega), if_pos (by omega), HE.out, Qik_step, hz, hxe, hye]
          have HM' : Hid (∀ m, gn (zs.set (i + k) (v + z)) m ≤ (17 * i + (k + 1)) * 65025) := show ∀ m, gn (zs.set (i + k) (v + z)) m ≤ (17 * i + (k + 1)) * 65025 from fun m => by
            rw [gn_set]
            split
            · rw [← Nat.add_assoc, Nat.add_mul, Nat.one_mul]
              exact Nat.add_le_add HVB.out hzb
            · exact Nat.le_trans (HM.out m) (Nat.mul_le_mul_right _ (by omega))
          have E1 : Hid ((v : Int) + (z : Int) = ((v + z : Nat) : Int)) := show _ = _ by omega
          have hp1 : (0 : Int) ≤ (i : Int) ∧ (i : Int) < 17 := by omega
          have hp2 : (0 : Int) ≤ (k : Int) ∧ (k : Int) < 17 := by omega
          have hp3 : (0 : Int) ≤ (i : Int) + (k : Int) ∧ (i : Int) + (k : Int) < 34 := by omega
          clear hz hxe hye hve
          go_wp2
          go_region
          go_wp2
          go_roundw
          case rel =>
            rw [E1.out]
            have q3 := rZ.set (i + k) (.int .u64 ((v + z : Nat) : Int))
            rw [ns_set] at q3
            refine ⟨k + 1, _, by omega, by go_num, ?_, HM', HN, q3, Below.drew (hbel.setCell (p := ⟨w.heap.size, i + k, none⟩) (Nat.le_refl _) _)⟩
            show List.length _ = 34
            rw [List.length_set]; exact HL.out
          case measure => simp [intOf]; omega
        · have hdk2 : decide ((k : Int) < 17) = false := by simp; omega
          rw [show k = 17 by omega] at HM HE
          go_wp2
          go_roundw
          case rel => exact ⟨i + 1, zs, by omega, by go_num, HL, HM, show _ = _ by rw [Qik_next]; exact HE.out, rZ, hbel⟩
          case measure => simp [intOf]; omega
    · have hdk : decide ((i : Int) < 17) = false := by simp; omega
      rw [show i = 17 by omega, Qik_all] at HE
      have HV : Hid (nV zs = nV a * nV b) := show _ = _ by
        rw [← nK_out zs 34 (by rw [HL.out]; omega), HE.out, nK_out a 17 (by rw [HA.out.len]; omega), nK_out b 17 (by rw [HB.out.len]; omega)]
      have HC : Hid (∀ i, gn zs i ≤ 1152921504606846976) := show ∀ i, gn zs i ≤ 1152921504606846976 from fun m => Nat.le_trans (HM.out m) (by omega)
      have HNO := veil (NOk.of_row rZ HL.out)
      clear HE HM
      go_wp2_with fail
      refine (refCarried_any w.heap.size 34 zs wr HNO.out HC.out).mono ?_
      rintro e8 w8 ⟨v8', rfl, own8, hb8⟩
      have own9 := own_low own8 hbel.size
      rw [HV.out] at own9
      go_wp2
      go_ret
      exact ⟨_, rfl, own9, hbel.trans (hb8.mono hbel.size)⟩
end Go.Proofs.YtffokggejbmadaaGreatDoor

/-! What mailcoachref05.fold answers. -/
namespace Go.Proofs.YtffokggejbmadaaGreatDoor
open Go Go.RowKit

/-- What is above 130 bits, five times, and what is below. -/
def foldN (v : Nat) : Nat := v % 1361129467683753853853498429727072845824 + 5 * (v / 1361129467683753853853498429727072845824)
theorem pow1 (v t : Nat) : v / 256 ^ (16 + t) = v / 256 ^ 16 / 256 ^ t := by rw [Nat.pow_add, Nat.div_div_eq_div_mul]
theorem high_digit (v t : Nat) (hv : v < 256 ^ 34) (ht : t < 18) : v / 256 ^ (16 + t) % 256 / 4 + (if 16 + t + 1 < 34 then v / 256 ^ (16 + t + 1) % 256 % 4 * 64 else 0) = v / 1361129467683753853853498429727072845824 / 256 ^ t % 256 := by
  have e1 : v / 1361129467683753853853498429727072845824 / 256 ^ t = v / 256 ^ (16 + t) / 4 := by
    rw [show (1361129467683753853853498429727072845824 : Nat) = 256 ^ 16 * 4 by decide, Nat.div_div_eq_div_mul, Nat.div_div_eq_div_mul, Nat.pow_add, Nat.mul_assoc, Nat.mul_comm 4, ← Nat.mul_assoc]
  have e2 : v / 256 ^ (16 + t + 1) = v / 256 ^ (16 + t) / 256 := by rw [Nat.pow_succ, Nat.div_div_eq_div_mul]
  rw [e1]
  by_cases h : 16 + t + 1 < 34
  · rw [if_pos h, e2]
    omega
  · rw [if_neg h]
    have h17 : t = 17 := by omega
    subst h17
    have : v / 256 ^ (16 + 17) < 256 := by
      rw [Nat.div_lt_iff_lt_mul (Nat.pow_pos (by decide)), ← Nat.pow_succ']
      exact hv
    omega
theorem nK_low (v : Nat) (lo : List Nat) (h : ∀ i, i < 16 → gn lo i = v / 256 ^ i % 256) (h16 : gn lo 16 = v / 256 ^ 16 % 256 % 4) : nK lo 17 = v % 1361129467683753853853498429727072845824 := by
  rw [show nK lo 17 = nK lo 16 + gn lo 16 * 256 ^ 16 from rfl, h16, nK_congr (b := dig v 34) 16 (fun i hi => by rw [h i hi, dig_get _ _ _ (by omega)]), nK_dig v 34 16 (by omega)]
  have e : (256 : Nat) ^ 16 = 340282366920938463463374607431768211456 := by decide
  rw [e]
  omega
theorem nK_high (v : Nat) (hv : v < 256 ^ 34) (h : List Nat) (hh : ∀ t, t < 18 → gn h t = v / 1361129467683753853853498429727072845824 / 256 ^ t % 256) : nK h 18 = v / 1361129467683753853853498429727072845824 := by
  rw [nK_congr (b := dig (v / 1361129467683753853853498429727072845824) 18) 18 (fun t ht => by rw [hh t ht, dig_get _ _ _ ht]), nK_dig _ _ _ (Nat.le_refl _)]
  apply Nat.mod_eq_of_lt
  rw [Nat.div_lt_iff_lt_mul (by decide)]
  have e : (256 : Nat) ^ 34 ≤ 256 ^ 18 * 1361129467683753853853498429727072845824 := by decide
  omega
/-- The places of what is above. -/
def hiD (v t : Nat) : Nat := v / 1361129467683753853853498429727072845824 / 256 ^ t % 256
/-- The places of what is below. -/
def loD (v i : Nat) : Nat := if i < 16 then v / 256 ^ i % 256 else if i = 16 then v / 256 ^ 16 % 256 % 4 else 0
theorem loD_le (v i : Nat) : loD v i ≤ 255 := by
  unfold loD
  split
  · have := Nat.mod_lt (v / 256 ^ i) (show 256 > 0 by decide); omega
  · split
    · omega
    · omega
theorem hiD_le (v t : Nat) : hiD v t ≤ 255 := by
  unfold hiD
  have := Nat.mod_lt (v / 1361129467683753853853498429727072845824 / 256 ^ t) (show 256 > 0 by decide)
  omega
theorem nV_fold (v : Nat) (hv : v < 256 ^ 34) (zs : List Nat) (hl : zs.length = 34) (hz : ∀ i, gn zs i = loD v i + if i < 18 then 5 * hiD v i else 0) : nV zs = foldN v := by
  rw [← nK_out zs 34 (by omega)]
  have lo17 := nK_low v ((List.range 34).map (loD v)) (fun i hi => by simp [gn, loD, hi, show i < 34 by omega]) (by simp [gn, loD])
  have hi18 := nK_high v hv ((List.range 18).map (hiD v)) (fun t ht => by simp [gn, hiD, ht])
  have hlo : ∀ k, 17 ≤ k → nK ((List.range 34).map (loD v)) k = nK ((List.range 34).map (loD v)) 17 := by
    intro k hk
    obtain ⟨d, rfl⟩ : ∃ d, k = 17 + d := ⟨k - 17, by omega⟩
    induction d with
    | zero => rfl
    | succ d ih =>
      rw [show 17 + (d + 1) = (17 + d) + 1 by omega, show nK ((List.range 34).map (loD v)) (17 + d + 1) = nK ((List.range 34).map (loD v)) (17 + d) + gn ((List.range 34).map (loD v)) (17 + d) * 256 ^ (17 + d) from rfl, ih (by omega)]
      have e : gn ((List.range 34).map (loD v)) (17 + d) = 0 := by
        by_cases h : 17 + d < 34
        · have e2 : loD v (17 + d) = 0 := by unfold loD; rw [if_neg (by omega), if_neg (by omega)]
          rw [← e2]
          simp [gn, h]
        · rw [gn_out (by simp; omega)]
      rw [e, Nat.zero_mul, Nat.add_zero]
  have hmul : ∀ (h : List Nat) k, nK (h.map (5 * ·)) k = 5 * nK h k := by
    intro h k
    induction k with
    | zero => rfl
    | succ k ih =>
      rw [show nK (h.map (5 * ·)) (k + 1) = nK (h.map (5 * ·)) k + gn (h.map (5 * ·)) k * 256 ^ k from rfl, ih, show nK h (k + 1) = nK h k + gn h k * 256 ^ k from rfl, Nat.mul_add]
      congr 1
      have e : gn (h.map (5 * ·)) k = 5 * gn h k := by
        unfold gn
        rw [List.getElem?_map]
        cases h[k]? <;> rfl
      rw [e, Nat.mul_assoc]
  rw [nK_add ((List.range 34).map (loD v)) (((List.range 18).map (hiD v)).map (5 * ·)) zs 34 (fun i hi => ?_), hlo 34 (by omega), lo17, nK_out (((List.range 18).map (hiD v)).map (5 * ·)) 34 (by simp), ← nK_out (((List.range 18).map (hiD v)).map (5 * ·)) 18 (by simp), hmul, hi18]
  · rfl
  · rw [hz i]
    congr 1
    · simp [gn, hi]
    · by_cases h18 : i < 18
      · rw [if_pos h18]
        simp [gn, h18]
      · rw [if_neg h18, gn_out (by simp; omega)]

set_option maxRecDepth 20000 in
set_option maxHeartbeats 2000000 in
theorem refFold_any (ga ca : Nat) (v : Nat) (hv : v < 256 ^ 34) (w : World) (ha : NOk w ga 34 (dig v 34)) :
    Calls Tryz.prog 129 #[.slice (some ⟨ga, 0, none⟩) 34 ca] w fun e w' => ∃ x, e = .returned x ∧ w'.ownsRow w.heap.size 75 1 x 34 (vn (dig (foldN v) 34)) ∧ Below w.heap.size w w' := by
  obtain ⟨i0, hi, hz0, hz1, hz2⟩ := info_parts (P := Tryz.prog) (e := 75) (z := .int .u64 0) (size := 1) (bytes := 8) (by kernel_rfl)
  have HA := veil ha
  have HV := veil hv
  clear ha hv
  go_enter Tryz.func129, Tryz.ntmps129
  go_wp2_with (with_reducible (show wpList _ _ _ (⟨_, Op.makeSlice _ _ _, _, _, _, _⟩ :: _) _ _)
               refine wpList_make_full w rfl _ _ 80 rfl w.heap.size 75 i0 (.int .u64 0) 1 Tryz.underlying80 hi hz0 hz1 .i64 .i64 34 34 34 rfl rfl rfl rfl (by rw [hz2]; decide) (by unfold maxLen; decide) (Nat.le_refl _) ?_
               intro w6 own6 grow6)
  rw [made_vn] at own6
  have r6 : Row w6 w.heap.size 75 (ns z34) := own_row own6
  have b6 : Below w.heap.size w w6 := (Below.refl _ w).grown grow6 (Nat.le_refl _) (fun q e => by cases e)
  clear own6 grow6
  go_loopw [4] (fun iv wr => ∃ (k : Nat) (zs : List Nat), k ≤ 17 ∧ iv = .int .i64 k ∧ Hid (zs.length = 34) ∧ Hid (∀ i, gn zs i = if i < k then v / 256 ^ i % 256 else 0) ∧ Row wr w.heap.size 75 (ns zs) ∧ Below w.heap.size w wr)
    (fun iv _ => 17 - (intOf iv).toNat)
  case atStart => exact ⟨0, z34, by omega, rfl, rfl, fun i => by rw [if_neg (by omega), gn_z34], r6, b6⟩
  case round =>
    clear r6 b6
    obtain ⟨k, zs, hk, rfl, HL, HE, rZ, hbel⟩ := hrel
    by_cases hlt : k < 17
    · have hdk : decide ((k : Int) < 17) = true := by simp; omega
      have cx := (HA.out.below hbel).cell k (by omega)
      have cz := rZ.cellN (j := k) (by rw [HL.out]; omega)
      have fz := rZ.frozen k
      rw [dig_get _ _ _ (by omega)] at cx
      obtain ⟨x, hxe⟩ : ∃ x, x = v / 256 ^ k % 256 := ⟨_, rfl⟩
      rw [← hxe] at cx
      generalize gn zs k = y0 at cz
      have HX := veil hxe
      have hp : (0 : Int) ≤ (k : Int) ∧ (k : Int) < 34 := by omega
      clear hxe
      go_wp2
      go_roundw
      case rel =>
        have qZ := rZ.set k (.int .u64 (x : Int))
        rw [ns_set] at qZ
        refine ⟨k + 1, _, by omega, by go_num, ?_, ?_, qZ, hbel.setCell (p := ⟨w.heap.size, k, none⟩) (Nat.le_refl _) _⟩
        · show List.length _ = 34
          rw [List.length_set]; exact HL.out
        · intro i
          rw [gn_set, HE.out i, HX.out, HL.out]
          by_cases hi : k = i ∧ i < 34
          · rw [if_pos hi, if_pos (by omega), hi.1]
          · rw [if_neg hi]
            by_cases h2 : i < k
            · rw [if_pos h2, if_pos (by omega)]
            · rw [if_neg h2, if_neg (by omega)]
      case measure => simp [intOf]; omega
    · have hdk : decide ((k : Int) < 17) = false := by simp; omega
      rw [show k = 17 by omega] at HE
      have cx := (HA.out.below hbel).cell 16 (by omega)
      rw [dig_get _ _ _ (by omega)] at cx
      have cz := rZ.cellN (j := 16) (by rw [HL.out]; omega)
      have fz := rZ.frozen 16
      obtain ⟨x, hxe⟩ : ∃ x, x = v / 256 ^ 16 % 256 := ⟨_, rfl⟩
      have hx8 : x < 256 := by rw [hxe]; exact Nat.mod_lt _ (by decide)
      rw [← hxe] at cx
      generalize gn zs 16 = y0 at cz
      have E1 : (x : Int) % 4 = ((x % 4 : Nat) : Int) := by omega
      have q0 := rZ.set 16 (.int .u64 ((x % 4 : Nat) : Int))
      rw [ns_set] at q0
      have HE2 : Hid (∀ i, gn (zs.set 16 (x % 4)) i = loD v i) := show ∀ i, gn (zs.set 16 (x % 4)) i = loD v i from fun i => by
        rw [gn_set, HL.out, HE.out i, hxe]
        unfold loD
        by_cases h6 : 16 = i ∧ i < 34
        · rw [if_pos h6, if_neg (by omega), if_pos (by omega)]
        · rw [if_neg h6]
          by_cases h2 : i < 16
          · rw [if_pos (by omega), if_pos h2]
          · rw [if_neg (by omega), if_neg h2, if_neg (by omega)]
      have HL2 : Hid ((zs.set 16 (x % 4)).length = 34) := show _ = _ by rw [List.length_set]; exact HL.out
      have b7 := hbel.setCell (p := ⟨w.heap.size, 16, none⟩) (Nat.le_refl _) (.int .u64 ((x % 4 : Nat) : Int))
      have E1v := veil E1
      clear hxe HE E1
      go_wp2
      rw [E1v.out]
      generalize wr.setCell ⟨w.heap.size, 16, none⟩ (.int .u64 ((x % 4 : Nat) : Int)) = W7 at *
      generalize zs.set 16 (x % 4) = ls at *
      go_loopw [5] (fun iv wr => ∃ (k : Nat) (ys : List Nat), k ≤ 18 ∧ iv = .int .i64 ((16 + k : Nat) : Int) ∧ Hid (ys.length = 34) ∧ Hid (∀ i, gn ys i = loD v i + if i < k then 5 * hiD v i else 0) ∧ Row wr w.heap.size 75 (ns ys) ∧ Below w.heap.size w wr)
        (fun iv _ => 34 - (intOf iv).toNat)
      case atStart => exact ⟨0, ls, by omega, rfl, HL2, fun i => by rw [if_neg (by omega), Nat.add_zero, HE2.out], q0, b7⟩
      case round =>
        clear q0 b7 HL2 HE2 rZ hbel HL hdk cz cx fz
        obtain ⟨k, ys, hk, rfl, HL, HE, rZ, hbel⟩ := hrel
        by_cases hlt : k < 18
        · have hdk : decide (((16 + k : Nat) : Int) < 34) = true := by simp; omega
          have cx := (HA.out.below hbel).cell (16 + k) (by omega)
          rw [dig_get _ _ _ (by omega)] at cx
          have cz := rZ.cellN (j := k) (by rw [HL.out]; omega)
          have fz := rZ.frozen k
          rw [HE.out k, if_neg (by omega), Nat.add_zero] at cz
          obtain ⟨x, hxe⟩ : ∃ x, x = v / 256 ^ (16 + k) % 256 := ⟨_, rfl⟩
          have hx8 : x < 256 := by rw [hxe]; exact Nat.mod_lt _ (by decide)
          rw [← hxe] at cx
          obtain ⟨y, hye⟩ : ∃ y, y = loD v k := ⟨_, rfl⟩
          have hy8 : y ≤ 255 := by rw [hye]; exact loD_le v k
          rw [← hye] at cz
          have HDG : Hid (x / 4 + (if 16 + k + 1 < 34 then v / 256 ^ (16 + k + 1) % 256 % 4 * 64 else 0) = hiD v k) := show _ = _ by rw [hxe]; exact high_digit v k HV.out hlt
          have hh8 := hiD_le v k
          generalize hhd : hiD v k = hd at *
          have HHD := veil hhd
          have HYE := veil hye
          clear hxe hye hhd
          by_cases h17 : k < 17
          · have cy := (HA.out.below hbel).cell (16 + k + 1) (by omega)
            rw [dig_get _ _ _ (by omega)] at cy
            rw [if_pos (by omega)] at HDG
            generalize v / 256 ^ (16 + k + 1) % 256 = y2 at *
            have hd4 : decide ((16 : Int) + (k : Int) + 1 < 34) = true := by simp; omega
            have HW : Hid ((y : Int) + 5 * ((x : Int) / 4 + (y2 : Int) % 4 * 64) = ((y + 5 * hd : Nat) : Int)) := show _ = _ by
              have := HDG.out
              omega
            go_wp2
            go_roundw
            case rel =>
              rw [HW.out]
              have qZ := rZ.set k (.int .u64 ((y + 5 * hd : Nat) : Int))
              rw [ns_set] at qZ
              refine ⟨k + 1, _, by omega, by go_num, ?_, ?_, qZ, hbel.setCell (p := ⟨w.heap.size, k, none⟩) (Nat.le_refl _) _⟩
              · show List.length _ = 34
                rw [List.length_set]; exact HL.out
              · intro i
                rw [gn_set, HE.out i, HL.out]
                by_cases hi : k = i ∧ i < 34
                · rw [if_pos hi, if_pos (by omega), ← hi.1, HYE.out, HHD.out]
                · rw [if_neg hi]
                  by_cases h2 : i < k
                  · rw [if_pos h2, if_pos (by omega)]
                  · rw [if_neg h2, if_neg (by omega)]
            case measure => simp [intOf]; omega
          · rw [if_neg (by omega), Nat.add_zero] at HDG
            have hd4 : decide ((16 : Int) + (k : Int) + 1 < 34) = false := by simp; omega
            have HW : Hid ((y : Int) + 5 * ((x : Int) / 4) = ((y + 5 * hd : Nat) : Int)) := show _ = _ by
              have := HDG.out
              omega
            go_wp2
            go_roundw
            case rel =>
              rw [HW.out]
              have qZ := rZ.set k (.int .u64 ((y + 5 * hd : Nat) : Int))
              rw [ns_set] at qZ
              refine ⟨k + 1, _, by omega, by go_num, ?_, ?_, qZ, hbel.setCell (p := ⟨w.heap.size, k, none⟩) (Nat.le_refl _) _⟩
              · show List.length _ = 34
                rw [List.length_set]; exact HL.out
              · intro i
                rw [gn_set, HE.out i, HL.out]
                by_cases hi : k = i ∧ i < 34
                · rw [if_pos hi, if_pos (by omega), ← hi.1, HYE.out, HHD.out]
                · rw [if_neg hi]
                  by_cases h2 : i < k
                  · rw [if_pos h2, if_pos (by omega)]
                  · rw [if_neg h2, if_neg (by omega)]
            case measure => simp [intOf]; omega
        · have hdk : decide (((16 + k : Nat) : Int) < 34) = false := by simp; omega
          rw [show k = 18 by omega] at HE
          have HNV : Hid (nV ys = foldN v) := show _ = _ from nV_fold v HV.out ys HL.out HE.out
          have HC : Hid (∀ i, gn ys i ≤ 1152921504606846976) := show ∀ i, gn ys i ≤ 1152921504606846976 from fun i => by
            rw [HE.out i]
            have h1 := loD_le v i
            have h2 := hiD_le v i
            split <;> omega
          have HNO := veil (NOk.of_row rZ HL.out)
          clear HE
          go_wp2_with fail
          refine (refCarried_any w.heap.size 34 ys wr HNO.out HC.out).mono ?_
          rintro e8 w8 ⟨v8', rfl, own8, hb8⟩
          have own9 := own_low own8 hbel.size
          rw [HNV.out] at own9
          go_wp2
          go_ret
          exact ⟨_, rfl, own9, hbel.trans (hb8.mono hbel.size)⟩
end Go.Proofs.YtffokggejbmadaaGreatDoor

/-! What mailcoachref05.number and mailcoachref05.R answer. -/
namespace Go.Proofs.YtffokggejbmadaaGreatDoor
open Go Go.RowKit

def z17 : List Nat := List.replicate 17 0
theorem gn_z17 (i : Nat) : gn z17 i = 0 := by
  unfold gn z17
  rw [List.getElem?_replicate]
  split <;> rfl
theorem nK_leK (b : List By) (zs : List Nat) (k : Nat) (h : ∀ i, i < k → gn zs i = (gb b i).toNat) : nK zs k = leK b k := by
  induction k with
  | zero => rfl
  | succ k ih =>
    rw [show nK zs (k + 1) = nK zs k + gn zs k * 256 ^ k from rfl, ih (fun i hi => h i (by omega)), h k (by omega)]
    rfl
/-- A list of places is that of its number. -/
theorem dig_of (zs : List Nat) (n : Nat) (hl : zs.length = n) (hb : ∀ i, gn zs i ≤ 255) : zs = dig (nV zs) n := by
  have key : ∀ k j, j < k → nK zs k / 256 ^ j % 256 = gn zs j := by
    intro k
    induction k with
    | zero => intro j h; omega
    | succ k ih =>
      intro j h
      rw [show nK zs (k + 1) = nK zs k + gn zs k * 256 ^ k from rfl]
      by_cases hj : j = k
      · subst hj
        have hlt : nK zs j < 256 ^ j := by
          have : ∀ m, nK zs m < 256 ^ m := by
            intro m
            induction m with
            | zero => simp [nK]
            | succ m ih2 =>
              rw [show nK zs (m + 1) = nK zs m + gn zs m * 256 ^ m from rfl, Nat.pow_succ]
              have h1 : gn zs m * 256 ^ m ≤ 255 * 256 ^ m := Nat.mul_le_mul_right _ (hb m)
              omega
          exact this j
        rw [Nat.mul_comm, Nat.add_mul_div_left _ _ (Nat.pow_pos (by decide)), Nat.div_eq_of_lt hlt, Nat.zero_add]
        exact Nat.mod_eq_of_lt (by have := hb j; omega)
      · rw [dig_stable _ _ (show j < k by omega)]
        exact ih j (by omega)
  subst hl
  apply List.ext_getElem (by rw [dig_length])
  intro i h1 h2
  have e := key zs.length i h1
  have e2 := dig_get (nV zs) zs.length i h1
  rw [show nV zs / 256 ^ i % 256 = gn zs i from e] at e2
  unfold gn at e2
  rw [List.getElem?_eq_getElem h1, List.getElem?_eq_getElem h2] at e2
  exact e2.symm

set_option maxRecDepth 20000 in
set_option maxHeartbeats 2000000 in
theorem refNumber_any (q : SL) (one : Bool) (w : World) (hq : q.Ok w) (hl : q.len ≤ 16) :
    Calls Tryz.prog 115 #[.slice q.a q.len q.cap, .bool one] w fun e w' => e = .returned (.slice (some ⟨w.heap.size, 0, none⟩) 17 17) ∧ Row w' w.heap.size 75 (ns (dig (leN q.b + if one then 256 ^ q.len else 0) 17)) ∧ Below w.heap.size w w' := by
  obtain ⟨i0, hi, hz0, hz1, hz2⟩ := info_parts (P := Tryz.prog) (e := 75) (z := .int .u64 0) (size := 1) (bytes := 8) (by kernel_rfl)
  have HQ := veil hq
  clear hq
  go_enter Tryz.func115, Tryz.ntmps115
  go_wp2_with (with_reducible (show wpList _ _ _ (⟨_, Op.makeSlice _ _ _, _, _, _, _⟩ :: _) _ _)
               refine wpList_make_full w rfl _ _ 80 rfl w.heap.size 75 i0 (.int .u64 0) 1 Tryz.underlying80 hi hz0 hz1 .i64 .i64 17 17 17 rfl rfl rfl rfl (by rw [hz2]; decide) (by unfold maxLen; decide) (Nat.le_refl _) ?_
               intro w6 own6 grow6)
  rw [made_vn] at own6
  have r6 : Row w6 w.heap.size 75 (ns z17) := own_row own6
  have b6 : Below w.heap.size w w6 := (Below.refl _ w).grown grow6 (Nat.le_refl _) (fun q e => by cases e)
  clear own6 grow6
  go_loopw [6] (fun iv wr => ∃ (k : Nat) (zs : List Nat), k ≤ q.len ∧ iv = .int .i64 k ∧ Hid (zs.length = 17) ∧ Hid (∀ i, gn zs i = if i < k then (gb q.b i).toNat else 0) ∧ Row wr w.heap.size 75 (ns zs) ∧ Below w.heap.size w wr)
    (fun iv _ => q.len - (intOf iv).toNat)
  case atStart => exact ⟨0, z17, by omega, rfl, rfl, fun i => by rw [if_neg (by omega), gn_z17], r6, b6⟩
  case round =>
    clear r6 b6
    obtain ⟨k, zs, hk, rfl, HL, HE, rZ, hbel⟩ := hrel
    by_cases hlt : k < q.len
    · have hdk : decide ((k : Int) < (q.len : Int)) = true := by simp; omega
      have hqr := HQ.out.below hbel
      have e := hqr.at_ (by omega)
      have cx := hqr.cell k hlt
      have cz := rZ.cellN (j := k) (by rw [HL.out]; omega)
      have fz := rZ.frozen k
      generalize gn zs k = y0 at cz
      obtain ⟨x, hxe⟩ : ∃ x, x = (gb q.b k).toNat := ⟨_, rfl⟩
      have hx8 : x < 256 := by rw [hxe]; exact (gb q.b k).isLt
      rw [show v8 (gb q.b k) = (x : Int) by rw [hxe]; rfl] at cx
      have HX := veil hxe
      have hw8 : IntKind.u64.wrap (x : Int) = (x : Int) := by rw [IntKind.wrap_u64]; omega
      have hp : (0 : Int) ≤ (k : Int) ∧ (k : Int) < (q.len : Int) := by omega
      have hp2 : (0 : Int) ≤ (k : Int) ∧ (k : Int) < 17 := by omega
      clear hxe hqr
      rw [e]
      go_wp2
      go_roundw
      case rel =>
        have qZ := rZ.set k (.int .u64 (x : Int))
        rw [ns_set] at qZ
        refine ⟨k + 1, _, by omega, by go_num, ?_, ?_, qZ, hbel.setCell (p := ⟨w.heap.size, k, none⟩) (Nat.le_refl _) _⟩
        · show List.length _ = 17
          rw [List.length_set]; exact HL.out
        · intro i
          rw [gn_set, HE.out i, HX.out, HL.out]
          by_cases hi : k = i ∧ i < 17
          · rw [if_pos hi, if_pos (by omega), hi.1]
          · rw [if_neg hi]
            by_cases h2 : i < k
            · rw [if_pos h2, if_pos (by omega)]
            · rw [if_neg h2, if_neg (by omega)]
      case measure => simp [intOf]; omega
    · have hdk : decide ((k : Int) < (q.len : Int)) = false := by simp; omega
      rw [show k = q.len by omega] at HE
      have HB : Hid (∀ i, gn zs i ≤ 255) := show ∀ i, gn zs i ≤ 255 from fun i => by
        rw [HE.out i]
        split
        · have := (gb q.b i).isLt; omega
        · omega
      have hqb := HQ.out.hb
      cases one with
      | false =>
        have HV : Hid (zs = dig (leN q.b) 17) := show _ = _ by
          have e := dig_of zs 17 HL.out HB.out
          have e2 : nV zs = leN q.b := by
            rw [← nK_out zs 17 (by rw [HL.out]; omega)]
            have e3 : nK zs 17 = nK zs q.len := by
              have : ∀ d, q.len + d ≤ 17 → nK zs (q.len + d) = nK zs q.len := by
                intro d
                induction d with
                | zero => intro _; rfl
                | succ d ih =>
                  intro h
                  rw [show q.len + (d + 1) = (q.len + d) + 1 by omega, show nK zs (q.len + d + 1) = nK zs (q.len + d) + gn zs (q.len + d) * 256 ^ (q.len + d) from rfl, ih (by omega), HE.out, if_neg (by omega), Nat.zero_mul, Nat.add_zero]
              have := this (17 - q.len) (by omega)
              rw [show q.len + (17 - q.len) = 17 by omega] at this
              exact this
            rw [e3]
            unfold leN
            rw [hqb]
            exact nK_leK q.b zs q.len (fun i hi => by rw [HE.out, if_pos hi])
          rw [e2] at e
          exact e
        go_wp2
        go_ret
        exact ⟨rfl, by rw [← HV.out]; exact rZ, hbel⟩
      | true =>
        have cz := rZ.cellN (j := q.len) (by rw [HL.out]; omega)
        have fz := rZ.frozen q.len
        generalize gn zs q.len = y0 at cz
        have hp2 : (0 : Int) ≤ (q.len : Int) ∧ (q.len : Int) < 17 := by omega
        have qZ := rZ.set q.len (.int .u64 ((1 : Nat) : Int))
        rw [ns_set] at qZ
        have HL2 : Hid ((zs.set q.len 1).length = 17) := show _ = _ by rw [List.length_set]; exact HL.out
        have HE2 : Hid (∀ i, gn (zs.set q.len 1) i = if i < q.len then (gb q.b i).toNat else if i = q.len then 1 else 0) := show ∀ i, gn (zs.set q.len 1) i = if i < q.len then (gb q.b i).toNat else if i = q.len then 1 else 0 from fun i => by
          rw [gn_set, HL.out, HE.out i]
          by_cases h1 : q.len = i ∧ i < 17
          · rw [if_pos h1, if_neg (by omega), if_pos (by omega)]
          · rw [if_neg h1]
            by_cases h2 : i < q.len
            · rw [if_pos h2, if_pos h2]
            · rw [if_neg h2, if_neg h2, if_neg (by omega)]
        have HV : Hid (zs.set q.len 1 = dig (leN q.b + 256 ^ q.len) 17) := show _ = _ by
          have e := dig_of (zs.set q.len 1) 17 HL2.out (fun i => by
            rw [HE2.out i]
            split
            · have := (gb q.b i).isLt; omega
            · split <;> omega)
          have e2 : nV (zs.set q.len 1) = leN q.b + 256 ^ q.len := by
            rw [← nK_out (zs.set q.len 1) 17 (by rw [HL2.out]; omega)]
            have : ∀ d, q.len + 1 + d ≤ 17 → nK (zs.set q.len 1) (q.len + 1 + d) = leN q.b + 256 ^ q.len := by
              intro d
              induction d with
              | zero =>
                intro _
                rw [show q.len + 1 + 0 = q.len + 1 from rfl, show nK (zs.set q.len 1) (q.len + 1) = nK (zs.set q.len 1) q.len + gn (zs.set q.len 1) q.len * 256 ^ q.len from rfl, HE2.out q.len, if_neg (by omega), if_pos rfl, Nat.one_mul, nK_leK q.b (zs.set q.len 1) q.len (fun i hi => by rw [HE2.out, if_pos hi])]
                unfold leN
                rw [hqb]
              | succ d ih =>
                intro h
                rw [show q.len + 1 + (d + 1) = (q.len + 1 + d) + 1 by omega, show nK (zs.set q.len 1) (q.len + 1 + d + 1) = nK (zs.set q.len 1) (q.len + 1 + d) + gn (zs.set q.len 1) (q.len + 1 + d) * 256 ^ (q.len + 1 + d) from rfl, ih (by omega), HE2.out, if_neg (by omega), if_neg (by omega), Nat.zero_mul, Nat.add_zero]
            have := this (16 - q.len) (by omega)
            rw [show q.len + 1 + (16 - q.len) = 17 by omega] at this
            exact this
          rw [e2] at e
          exact e
        have kb := hbel.setCell (p := ⟨w.heap.size, q.len, none⟩) (Nat.le_refl _) (.int .u64 ((1 : Nat) : Int))
        clear HE HE2 HB
        go_wp2
        go_ret
        exact ⟨rfl, by rw [← HV.out]; exact qZ, kb⟩
end Go.Proofs.YtffokggejbmadaaGreatDoor

/-! What mailcoachref05.R answers. -/
namespace Go.Proofs.YtffokggejbmadaaGreatDoor
open Go Go.RowKit

theorem and15 (b : By) : (b &&& 15).toNat = b.toNat % 16 := by
  rw [BitVec.toNat_and]
  exact Nat.and_two_pow_sub_one_eq_mod b.toNat 4
theorem and252 (b : By) : (b &&& 252).toNat = b.toNat - b.toNat % 4 := by
  have h : ∀ x : Fin 256, x.1 &&& 252 = x.1 - x.1 % 4 := by decide +kernel
  rw [BitVec.toNat_and]
  exact h ⟨b.toNat, b.isLt⟩
theorem half_get (key : List By) (hk : key.length = 32) (i : Nat) : gn (dig (leN (key.take 16)) 17) i = if i < 16 then (gb key i).toNat else 0 := by
  have e : leN (key.take 16) = leK (key.take 16) 16 := by unfold leN; rw [List.length_take, hk]; rfl
  by_cases h : i < 16
  · rw [if_pos h, dig_get _ _ _ (by omega), e, leK_div _ _ _ h, gb_take _ _ _ h]
  · rw [if_neg h]
    by_cases h2 : i < 17
    · rw [show i = 16 by omega, dig_get _ _ _ (by omega), e, Nat.div_eq_of_lt (leK_lt _ _)]
    · rw [gn_out (by rw [dig_length]; omega)]
theorem dig_r (key : List By) (zs : List Nat) (hl : zs.length = 17) (h : ∀ i, gn zs i = if i < 16 then (clB key i).toNat else 0) : zs = dig (rN key) 17 := by
  have e := dig_of zs 17 hl (fun i => by
    rw [h i]
    split
    · have := (clB key i).isLt; omega
    · omega)
  have e2 : nV zs = rN key := by
    rw [← nK_out zs 17 (by omega), show nK zs 17 = nK zs 16 + gn zs 16 * 256 ^ 16 from rfl, h 16, if_neg (by omega), Nat.zero_mul, Nat.add_zero]
    exact nK_leK (clL key) zs 16 (fun i hi => by rw [h i, if_pos hi, clL_get _ _ hi])
  rw [e2] at e
  exact e

set_option maxRecDepth 20000 in
set_option maxHeartbeats 2000000 in
theorem refR_any (key : List By) (hk : key.length = 32) (w : World) :
    Calls Tryz.prog 114 #[.agg (bs key)] w fun e w' => e = .returned (.slice (some ⟨w.heap.size + 1, 0, none⟩) 17 17) ∧ Row w' (w.heap.size + 1) 75 (ns (dig (rN key) 17)) ∧ Below w.heap.size w w' := by
  have HK := veil hk
  have hsl := slice_ok (Row.new w 49 (bs key)) 0 16 32 (by rw [hk]; omega) (by omega)
  rw [List.drop_zero] at hsl
  have HSL := veil hsl
  have HH := veil (half_get key hk)
  clear hk hsl
  go_enter Tryz.func114, Tryz.ntmps114
  go_wp2_with fail
  refine (refNumber_any _ false _ HSL.out (by show 16 ≤ 16; omega)).mono ?_
  rintro e1 w1 ⟨rfl, r1, hb1⟩
  have hz : dig (leN (SL.mk (some ⟨w.heap.size, 0, none⟩) 16 32 w.heap.size 0 (key.take 16)).b + if false = true then 256 ^ (SL.mk (some ⟨w.heap.size, 0, none⟩) 16 32 w.heap.size 0 (key.take 16)).len else 0) 17 = dig (leN (key.take 16)) 17 := by rw [if_neg (by simp), Nat.add_zero]
  rw [hz] at r1
  have b1 : Below w.heap.size w w1 := ((Below.refl _ w).alloc (Nat.le_refl _) _).trans (hb1.mono (by simp))
  have r1' : Row w1 (w.heap.size + 1) 75 (ns (dig (leN (key.take 16)) 17)) := by
    have := r1
    rw [World.size_alloc] at this
    exact this
  clear r1 hb1 hz HSL
  simp only [World.size_alloc]
  go_wp2_with fail
  go_loopw [4] (fun iv wr => ∃ (i : Nat) (zs : List Nat), i ≤ 19 ∧ i % 4 = 3 ∧ iv = .int .i64 i ∧ Hid (zs.length = 17) ∧ Hid (∀ j, gn zs j = if j < 16 then (if j % 4 = 3 ∧ j < i then (gb key j).toNat % 16 else (gb key j).toNat) else 0) ∧ Row wr (w.heap.size + 1) 75 (ns zs) ∧ Below w.heap.size w wr)
    (fun iv _ => 19 - (intOf iv).toNat)
  case atStart =>
    refine ⟨3, _, by omega, rfl, rfl, dig_length _ _, fun j => ?_, r1', b1⟩
    rw [HH.out j]
    split
    · rw [if_neg (by omega)]
    · rfl
  case round =>
    clear r1' b1
    obtain ⟨i, zs, hi, hi4, rfl, HL, HE, rZ, hbel⟩ := hrel
    by_cases h16 : i < 16
    · have hdk : decide ((i : Int) < 16) = true := by simp; omega
      have cz := rZ.cellN (j := i) (by rw [HL.out]; omega)
      have fz := rZ.frozen i
      rw [HE.out i, if_pos h16, if_neg (by omega)] at cz
      obtain ⟨x, hxe⟩ : ∃ x, x = (gb key i).toNat := ⟨_, rfl⟩
      have hx8 : x < 256 := by rw [hxe]; exact (gb key i).isLt
      rw [← hxe] at cz
      have HX := veil hxe
      have hp : (0 : Int) ≤ (i : Int) ∧ (i : Int) < 17 := by omega
      have E1 : Hid ((x : Int) % 16 = ((x % 16 : Nat) : Int)) := show _ = _ by omega
      clear hxe
      go_wp2
      go_roundw
      case rel =>
        rw [E1.out]
        have qZ := rZ.set i (.int .u64 ((x % 16 : Nat) : Int))
        rw [ns_set] at qZ
        refine ⟨i + 4, _, by omega, by omega, by go_num, ?_, ?_, qZ, hbel.setCell (p := ⟨w.heap.size + 1, i, none⟩) (by show w.heap.size ≤ w.heap.size + 1; omega) _⟩
        · show List.length _ = 17
          rw [List.length_set]; exact HL.out
        · intro j
          rw [gn_set, HL.out, HE.out j, HX.out]
          by_cases hj : i = j ∧ j < 17
          · rw [if_pos hj, if_pos (by omega), if_pos (by omega), hj.1]
          · rw [if_neg hj]
            by_cases h6 : j < 16
            · rw [if_pos h6, if_pos h6]
              by_cases h2 : j % 4 = 3 ∧ j < i
              · rw [if_pos h2, if_pos (by omega)]
              · rw [if_neg h2, if_neg (by omega)]
            · rw [if_neg h6, if_neg h6]
      case measure => simp [intOf]; omega
    · have hdk : decide ((i : Int) < 16) = false := by simp; omega
      rw [show i = 19 by omega] at HE
      go_wp2
      go_loopw [5] (fun iv wr => ∃ (i : Nat) (zs : List Nat), i ≤ 16 ∧ i % 4 = 0 ∧ 4 ≤ i ∧ iv = .int .i64 i ∧ Hid (zs.length = 17) ∧ Hid (∀ j, gn zs j = if j < 16 then (if j % 4 = 3 then (gb key j).toNat % 16 else if (j % 4 = 0 ∧ 0 < j) ∧ j < i then (gb key j).toNat - (gb key j).toNat % 4 else (gb key j).toNat) else 0) ∧ Row wr (w.heap.size + 1) 75 (ns zs) ∧ Below w.heap.size w wr)
        (fun iv _ => 16 - (intOf iv).toNat)
      case atStart =>
        refine ⟨4, zs, by omega, rfl, by omega, rfl, HL, fun j => ?_, rZ, hbel⟩
        rw [HE.out j]
        by_cases h6 : j < 16
        · rw [if_pos h6, if_pos h6]
          by_cases h3 : j % 4 = 3
          · rw [if_pos h3, if_pos ⟨h3, by omega⟩]
          · rw [if_neg h3, if_neg (fun e => h3 e.1), if_neg (by omega)]
        · rw [if_neg h6, if_neg h6]
      case round =>
        clear HL HE rZ hbel hdk
        obtain ⟨i, zs, hi, hi4, hi0, rfl, HL, HE, rZ, hbel⟩ := hrel
        by_cases h16 : i < 16
        · have hdk : decide ((i : Int) < 16) = true := by simp; omega
          have cz := rZ.cellN (j := i) (by rw [HL.out]; omega)
          have fz := rZ.frozen i
          rw [HE.out i, if_pos h16, if_neg (by omega), if_neg (by omega)] at cz
          obtain ⟨x, hxe⟩ : ∃ x, x = (gb key i).toNat := ⟨_, rfl⟩
          have hx8 : x < 256 := by rw [hxe]; exact (gb key i).isLt
          rw [← hxe] at cz
          have HX := veil hxe
          have hp : (0 : Int) ≤ (i : Int) ∧ (i : Int) < 17 := by omega
          have E1 : Hid ((x : Int) - (x : Int) % 4 = ((x - x % 4 : Nat) : Int)) := show _ = _ by omega
          clear hxe
          go_wp2
          go_region
          go_wp2
          go_roundw
          case rel =>
            rw [E1.out]
            have qZ := rZ.set i (.int .u64 ((x - x % 4 : Nat) : Int))
            rw [ns_set] at qZ
            refine ⟨i + 4, _, by omega, by omega, by omega, by go_num, ?_, ?_, qZ, Below.drew (hbel.setCell (p := ⟨w.heap.size + 1, i, none⟩) (by show w.heap.size ≤ w.heap.size + 1; omega) _)⟩
            · show List.length _ = 17
              rw [List.length_set]; exact HL.out
            · intro j
              rw [gn_set, HL.out, HE.out j, HX.out]
              by_cases hj : i = j ∧ j < 17
              · rw [if_pos hj, if_pos (by omega), if_neg (by omega), if_pos (by omega), hj.1]
              · rw [if_neg hj]
                by_cases h6 : j < 16
                · rw [if_pos h6, if_pos h6]
                  by_cases h3 : j % 4 = 3
                  · rw [if_pos h3, if_pos h3]
                  · rw [if_neg h3, if_neg h3]
                    by_cases h2 : (j % 4 = 0 ∧ 0 < j) ∧ j < i
                    · rw [if_pos h2, if_pos (by omega)]
                    · rw [if_neg h2, if_neg (by omega)]
                · rw [if_neg h6, if_neg h6]
          case measure => simp [intOf]; omega
        · have hdk : decide ((i : Int) < 16) = false := by simp; omega
          rw [show i = 16 by omega] at HE
          have HR : Hid (zs = dig (rN key) 17) := show _ = _ from dig_r key zs HL.out (fun j => by
            rw [HE.out j]
            by_cases h6 : j < 16
            · rw [if_pos h6, if_pos h6]
              unfold clB
              by_cases h3 : j % 4 = 3
              · rw [if_pos h3, if_pos h3, and15]
              · rw [if_neg h3, if_neg h3]
                by_cases h2 : j % 4 = 0 ∧ 0 < j
                · rw [if_pos ⟨h2, h6⟩, if_pos h2, and252]
                · rw [if_neg (fun e => h2 e.1), if_neg h2]
            · rw [if_neg h6, if_neg h6])
          clear HE
          go_wp2
          go_ret
          exact ⟨rfl, by rw [← HR.out]; exact rZ, hbel⟩
end Go.Proofs.YtffokggejbmadaaGreatDoor

/-! What mailcoachref05.Left answers. -/
namespace Go.Proofs.YtffokggejbmadaaGreatDoor
open Go Go.RowKit

theorem fold_mod (v : Nat) : foldN v % PP = v % PP := by
  unfold foldN PP
  omega
theorem fold_lt (v : Nat) (h : v < 256 ^ 34) : foldN v < 256 ^ 34 := by
  have e : (256 : Nat) ^ 34 = 7588550360256754183279148073529370729071901715047420004889892225542594864082845696 := by decide
  rw [e] at *
  unfold foldN
  omega
def foldK (v : Nat) : Nat → Nat
  | 0 => v
  | k + 1 => foldN (foldK v k)
theorem foldK_mod (v : Nat) : ∀ k, foldK v k % PP = v % PP
  | 0 => rfl
  | k + 1 => by rw [show foldK v (k + 1) = foldN (foldK v k) from rfl, fold_mod, foldK_mod v k]
theorem foldK_lt (v : Nat) (h : v < 256 ^ 34) : ∀ k, foldK v k < 256 ^ 34
  | 0 => h
  | k + 1 => fold_lt _ (foldK_lt v h k)
theorem foldK_four (v : Nat) (h : v < 256 ^ 34) : foldK v 4 < 1361129467683753853853498429727072845824 := by
  have e : (256 : Nat) ^ 34 = 7588550360256754183279148073529370729071901715047420004889892225542594864082845696 := by decide
  rw [e] at h
  have h1 : foldK v 1 < 27875930627072 * 1361129467683753853853498429727072845824 := by
    show foldN v < _
    unfold foldN
    omega
  have h2 : foldK v 2 < 1361129467683753853853498429727072845824 + 139379653135360 := by
    show foldN (foldK v 1) < _
    unfold foldN
    omega
  have h3 : foldK v 3 < 1361129467683753853853498429727072845824 := by
    show foldN (foldK v 2) < _
    unfold foldN
    omega
  show foldN (foldK v 3) < _
  unfold foldN
  omega

theorem ownN {w : World} {base n : Nat} {v : Value} {xs : List Value} (h : w.ownsRow base 75 1 v n xs) (hn : 0 < n) : ∃ g c, v = .slice (some ⟨g, 0, none⟩) n c := by
  rcases h.2 with ⟨_, rfl⟩ | ⟨g, c, cur, rfl, _⟩
  · omega
  · exact ⟨g, c, rfl⟩
theorem own_cur {w : World} {base g n cap : Nat} {xs : List Nat} (h : w.ownsRow base 75 1 (.slice (some ⟨g, 0, none⟩) n cap) n (vn xs)) : ∃ cur, Row w g 75 cur ∧ n ≤ cap ∧ cur.size = cap ∧ base ≤ g ∧ ∀ j, j < n → cur[j]? = some (.int .u64 (gn xs j : Int)) := by
  have hl : xs.length = n := by have := h.1; rw [vn_length] at this; omega
  rcases h.2 with ⟨h1, _⟩ | ⟨g', c', cur, h1, h2, h3, h4, _, h6, h7⟩
  · cases h1
  · simp only [Value.slice.injEq, Option.some.injEq, Addr.mk.injEq, and_true, true_and] at h1
    obtain ⟨rfl, rfl⟩ := h1
    refine ⟨cur, h3, h4, by omega, h2, fun j hj => ?_⟩
    have := vn_get xs j (by omega)
    rw [← h7, List.getElem?_take, if_pos (by omega)] at this
    simpa using this
theorem NOk.cut {w : World} {g n m v : Nat} (h : NOk w g n (dig v n)) (hm : m ≤ n) : NOk w g m (dig v m) :=
  ⟨dig_length _ _, h.lt, fun j hj => by rw [h.cell j (by omega), dig_get _ _ _ (by omega), dig_get _ _ _ hj]⟩
theorem five_list : nV [5] = 5 := by decide
theorem left_low (v : Nat) (hu : foldK v 4 + 5 < 1361129467683753853853498429727072845824) : foldK v 4 = v % PP := by
  rw [← foldK_mod v 4]
  exact (Nat.mod_eq_of_lt (by unfold PP; omega)).symm
theorem left_high (v : Nat) (h : v < 256 ^ 34) (hu : 1361129467683753853853498429727072845824 ≤ foldK v 4 + 5) : foldK v 4 + 5 = v % PP + 4 * 256 ^ 16 ∧ v % PP < 5 := by
  have h4 := foldK_four v h
  have e : (256 : Nat) ^ 16 = 340282366920938463463374607431768211456 := by decide
  rw [← foldK_mod v 4, e]
  unfold PP
  omega
theorem left_digit (x j : Nat) (hj : j < 16) : (x + 4 * 256 ^ 16) / 256 ^ j % 256 = x / 256 ^ j % 256 := dig_stable x 4 hj

set_option maxRecDepth 20000 in
set_option maxHeartbeats 2000000 in
theorem refLeft_any (ga ca : Nat) (v : Nat) (hv : v < 256 ^ 34) (w : World) (ha : NOk w ga 34 (dig v 34)) (hca : 34 ≤ ca) :
    Calls Tryz.prog 117 #[.slice (some ⟨ga, 0, none⟩) 34 ca] w fun e w' => ∃ g c, e = .returned (.slice (some ⟨g, 0, none⟩) 17 c) ∧ NOk w' g 17 (dig (v % PP) 17) ∧ Below w.heap.size w w' := by
  have HA := veil ha
  have HV := veil hv
  clear ha hv
  go_enter Tryz.func117, Tryz.ntmps117
  go_wp2_with fail
  go_loopw [0, 3] (fun av iv wr => ∃ (k g c : Nat), k ≤ 4 ∧ iv = .int .i64 k ∧ av = .slice (some ⟨g, 0, none⟩) 34 c ∧ NOk wr g 34 (dig (foldK v k) 34) ∧ 34 ≤ c ∧ Below w.heap.size w wr)
    (fun _ iv _ => 4 - (intOf iv).toNat)
  case atStart => exact ⟨0, ga, ca, by omega, rfl, rfl, HA.out, hca, Below.refl _ _⟩
  case round =>
    obtain ⟨k, g, c, hk, rfl, rfl, hN, hc, hbel⟩ := hrel
    have HN := veil hN
    have hs := hbel.size
    clear hN
    by_cases h4 : k < 4
    · have hdk : decide ((k : Int) < 4) = true := by simp; omega
      go_wp2_with fail
      refine (refFold_any g c (foldK v k) (foldK_lt v HV.out k) wr HN.out).mono ?_
      rintro e2 w2 ⟨x2, rfl, own2, hb2⟩
      obtain ⟨g2, c2, rfl⟩ := ownN own2 (by decide)
      have hN2 := NOk.of_own own2
      obtain ⟨_, _, hc2, _⟩ := own_cur own2
      have b2 := hbel.trans (hb2.mono hs)
      clear own2 hb2
      go_wp2
      go_roundw
      case rel => exact ⟨k + 1, g2, c2, by omega, by go_num, rfl, hN2, hc2, b2⟩
      case measure => simp [intOf]; omega
    · have hdk : decide ((k : Int) < 4) = false := by simp; omega
      rw [show k = 4 by omega] at HN
      have h4u := foldK_four v HV.out
      obtain ⟨u, hu⟩ : ∃ u, u = foldK v 4 := ⟨_, rfl⟩
      have HU := veil hu
      rw [← hu] at h4u HN
      have e34 : (256 : Nat) ^ 34 = 7588550360256754183279148073529370729071901715047420004889892225542594864082845696 := by decide
      have HNV : Hid (nV (dig u 34) = u) := show _ = _ from nV_dig u 34 (by rw [e34]; omega)
      have rF : Row (wr.alloc (.cells (ns [5]) 75)) wr.heap.size 75 (ns [5]) := Row.new _ _ _
      have HF := veil (NOk.of_row rF (n := 1) rfl)
      have HN' := veil (HN.out.below ((Below.refl _ wr).alloc (Nat.le_refl _) (.cells (ns [5]) 75)))
      have bF := hbel.alloc hs (.cells (ns [5]) 75)
      have H5 : Hid (∀ i, gn [5] i ≤ 255) := show ∀ i, gn [5] i ≤ 255 from fun i => by
        match i with
        | 0 => decide
        | i + 1 => rw [gn_out (by simp)]; omega
      have H255 : Hid (∀ i, gn (dig u 34) i ≤ 255) := show ∀ i, gn (dig u 34) i ≤ 255 from fun i => by have := dig_lt u 34 i; omega
      clear hu rF e34
      go_wp2_with fail
      refine (refAdd_any g 34 c (dig u 34) wr.heap.size 1 1 [5] _ HN'.out HF.out (by omega) (by omega) H255.out H5.out).mono ?_
      rintro e3 w3 ⟨x3, rfl, own3, hb3⟩
      rw [HNV.out, five_list] at own3
      obtain ⟨g3, c3, rfl⟩ := ownN own3 (by decide)
      obtain ⟨cur, r3, hc3, hcs, hg3, hcur⟩ := own_cur own3
      have hb3' := bF.trans (hb3.mono (by simp; omega))
      have HN3 := veil (HN'.out.below hb3)
      have HCUR := veil hcur
      have c16 : w3.cell? ⟨g3, 16, none⟩ = some (.int .u64 (gn (dig (u + 5) 34) 16 : Int)) := (r3.cell 16).trans (hcur 16 (by omega))
      rw [dig_get _ _ _ (by omega)] at c16
      have f16 := r3.frozen 16
      have e16 : (256 : Nat) ^ 16 = 340282366920938463463374607431768211456 := by decide
      obtain ⟨d, hd⟩ : ∃ d, d = (u + 5) / 256 ^ 16 % 256 := ⟨_, rfl⟩
      have hdb : d ≤ 4 ∧ (4 ≤ d ↔ 1361129467683753853853498429727072845824 ≤ u + 5) := by
        rw [hd, e16]
        omega
      rw [← hd] at c16
      have HD := veil hd
      have HBIG := veil hdb.2
      have hd4 := hdb.1
      have hgb : w.heap.size ≤ g3 := by simp at hg3; omega
      clear own3 hb3 hcur hd hdb HN' HF bF HNV
      by_cases hge : 4 ≤ d
      · have hdd : decide ((4 : Int) ≤ (d : Int)) = true := by simp; omega
        obtain ⟨hx1, hx2⟩ := left_high v HV.out (by rw [← HU.out]; exact HBIG.out.1 hge)
        rw [← HU.out] at hx1
        obtain ⟨x, hx⟩ : ∃ x, x = v % PP := ⟨_, rfl⟩
        rw [← hx] at hx1 hx2
        have q3 := r3.set 16 (.int .u64 0)
        have HR : Hid (NOk (w3.setCell ⟨g3, 16, none⟩ (.int .u64 0)) g3 17 (dig (v % PP) 17)) := show NOk _ _ _ _ from ⟨dig_length _ _, q3.lt, fun j hj => by
          rw [q3.cell j, Array.getElem?_setIfInBounds, dig_get _ _ _ hj, ← hx]
          by_cases hj6 : 16 = j
          · subst hj6
            rw [if_pos rfl, if_pos (by omega), e16, Nat.div_eq_of_lt (by omega)]
            rfl
          · rw [if_neg hj6, HCUR.out j (by omega), dig_get _ _ _ (by omega), hx1, left_digit _ _ (by omega)]⟩
        have kb := hb3'.setCell (p := ⟨g3, 16, none⟩) hgb (.int .u64 0)
        have E1 : (d : Int) - 4 = 0 := by omega
        have hcc : (17 : Int) ≤ (c3 : Int) := by omega
        clear hx1 hx2 hx
        go_wp2
        go_ret
        exact ⟨g3, c3, rfl, HR.out, kb⟩
      · have hdd : decide ((4 : Int) ≤ (d : Int)) = false := by simp; omega
        have e := left_low v (by rw [← HU.out]; have := HBIG.out; omega)
        rw [← HU.out] at e
        have HR : Hid (NOk w3 g 17 (dig (v % PP) 17)) := show NOk _ _ _ _ by rw [← e]; exact HN3.out.cut (by omega)
        have hcc : (17 : Int) ≤ (c : Int) := by omega
        clear e
        go_wp2
        go_ret
        exact ⟨g, c, rfl, HR.out, hb3'⟩
end Go.Proofs.YtffokggejbmadaaGreatDoor

/-! What mailcoachref05.Tag answers. -/
namespace Go.Proofs.YtffokggejbmadaaGreatDoor
open Go Go.RowKit

theorem builtinW {P : Program} {ops : Array Oper} {rest : List Oper} {o : Oper} {a : Act} {w : World} {Q : Exit → Act → World → Prop} (hgd : o.guard = none) (v : Value)
    (he : (execOp a.eval o).run P w = .ok (.value v) w) (h : wpList P ops Q rest (a.put o.dst v) w) : wpList P ops Q (o :: rest) a w :=
  wpList_plain hgd fun _ hK => by
    unfold Oper.wp
    rw [he]
    exact hK _ _ h
theorem acc_lt (r : Nat) (xs : List Wn) : accW r xs < PP := by
  rcases List.eq_nil_or_concat xs with rfl | ⟨ys, y, rfl⟩
  · show 0 < PP
    decide
  · rw [List.concat_eq_append, accW_snoc]
    exact Nat.mod_lt _ (by decide)
theorem dig_le (v k i : Nat) : gn (dig v k) i ≤ 255 := by
  have := dig_lt v k i
  omega

set_option maxRecDepth 20000 in
set_option maxHeartbeats 4000000 in
theorem refTag_any (key : List By) (hk : key.length = 32) (q : SL) (w : World) (hq : q.Ok w) (hl : q.len ≤ 4194304) :
    Calls Tryz.prog 72 #[.agg (bs key), .slice q.a q.len q.cap] w fun e w' => e = .returned (.tuple #[.agg (bs (tagL key q.b)), .int .i64 0]) ∧ Below w.heap.size w w' := by
  obtain ⟨i0, hi, hz0, hz1, hz2⟩ := info_parts (P := Tryz.prog) (e := 75) (z := .int .u64 0) (size := 1) (bytes := 8) (by kernel_rfl)
  have HK := veil hk
  have HQ := veil hq
  have hks : (bs key).size = 32 := by rw [bs_size, hk]
  have hgt : decide ((4194304 : Int) < (q.len : Int)) = false := by simp; omega
  have rk0 : Row ((w.alloc (.cells (bs key) 49)).alloc (.cells (bs z16) 55)) w.heap.size 49 (bs key) := (Row.new _ _ _).alloc _
  clear hk hq
  go_enter Tryz.func72, Tryz.ntmps72
  go_wp2_with (first
    | (with_reducible (show wpList _ _ _ (⟨_, Op.alloc 55, _, _, _, _⟩ :: _) _ _)
       refine alloc_row rfl 55 rfl (bs z16) (by kernel_rfl) ?_)
    | (with_reducible (show wpList _ _ _ (⟨some 18, Op.load 49 _, _, _, _, _⟩ :: _) _ _)
       refine load_row rfl 49 _ rfl w.heap.size rfl _ _ rk0 32 5 Tryz.underlying49 (by kernel_rfl) hks ?_))
  obtain ⟨w0, hw0⟩ : ∃ w0, w0 = (w.alloc (.cells (bs key) 49)).alloc (.cells (bs z16) 55) := ⟨_, rfl⟩
  have ro : Row w0 (w.heap.size + 1) 55 (bs z16) := by rw [hw0]; exact Row.new1 _ _ _ _
  have b0 : Below w.heap.size w w0 := by rw [hw0]; exact ((Below.refl _ w).alloc (Nat.le_refl _) _).alloc (by simp) _
  have hs0 : w0.heap.size = w.heap.size + 2 := by rw [hw0]; simp
  rw [← hw0] at rk0 ⊢
  clear hw0
  clear hgt
  refine (refR_any key HK.out w0).mono ?_
  rintro e1 w1 ⟨rfl, rR, hb1⟩
  rw [hs0] at rR ⊢
  have rk1 := rk0.below hb1 rk0.lt
  have ro1 := ro.below hb1 ro.lt
  have b1 := b0.trans (hb1.mono b0.size)
  have hl1 := rR.lt
  clear hb1 rk0 ro b0
  go_wp2_with (with_reducible (show wpList _ _ _ (⟨_, Op.makeSlice _ _ _, _, _, _, _⟩ :: _) _ _)
               refine wpList_make_full w1 rfl _ _ 80 rfl w1.heap.size 75 i0 (.int .u64 0) 1 Tryz.underlying80 hi hz0 hz1 .i64 .i64 17 17 17 rfl rfl rfl rfl (by rw [hz2]; decide) (by unfold maxLen; decide) (Nat.le_refl _) ?_
               intro w2 own2 grow2)
  rw [made_vn] at own2
  have r2 : Row w2 w1.heap.size 75 (ns z17) := own_row own2
  have hb2 : Below w1.heap.size w1 w2 := (Below.refl _ w1).grown grow2 (Nat.le_refl _) (fun q e => by cases e)
  have rk2 := rk1.below hb2 rk1.lt
  have ro2 := ro1.below hb2 ro1.lt
  have rR2 := rR.below hb2 rR.lt
  have b2 := b1.trans (hb2.mono b1.size)
  clear own2 grow2 hb2 rk1 ro1 rR b1
  go_loopw [7, 8] (fun av iv wr => ∃ (i g c : Nat), 16 * i < q.len + 16 ∧ iv = .int .i64 ((16 * i : Nat) : Int) ∧ av = .slice (some ⟨g, 0, none⟩) 17 c ∧ NOk wr g 17 (dig (accW (rN key) (partsTo q.b i)) 17) ∧ Row wr w.heap.size 49 (bs key) ∧ Row wr (w.heap.size + 1) 55 (bs z16) ∧ Row wr (w.heap.size + 2 + 1) 75 (ns (dig (rN key) 17)) ∧ Below w.heap.size w wr)
    (fun _ iv _ => q.len + 16 - (intOf iv).toNat)
  case atStart =>
    refine ⟨0, w1.heap.size, 17, by omega, rfl, rfl, ?_, rk2, ro2, rR2, b2⟩
    rw [show dig (accW (rN key) (partsTo q.b 0)) 17 = z17 by
      rw [show accW (rN key) (partsTo q.b 0) = 0 from rfl]
      decide +kernel]
    exact NOk.of_row r2 rfl
  case round =>
    clear r2 rk2 ro2 rR2 b2
    obtain ⟨i, g, c, hi6, rfl, rfl, hN, rK, rO, rR, hbel⟩ := hrel
    have HN := veil hN
    have HRR := veil rR
    have HRK := veil rK
    have HRO := veil rO
    have hlR := rR.lt
    have hs := hbel.size
    have hA := acc_lt (rN key) (partsTo q.b i)
    clear hN rR rK rO
    by_cases hlt : 16 * i < q.len
    · have hdk : decide (((16 * i : Nat) : Int) < (q.len : Int)) = true := by simp; omega
      obtain ⟨m, hm⟩ : ∃ m, m = min 16 (q.len - 16 * i) := ⟨_, rfl⟩
      have hm16 : m ≤ 16 := by omega
      have hmN : 16 * i + m ≤ q.len := by omega
      have hqw := HQ.out.below hbel
      have e := hqw.at_ (by omega)
      have hcap := hqw.hcap
      have HOK := veil (part_ok hqw i m hlt hm)
      have HM := veil hm
      clear hm hqw
      rw [e]
      go_wp2_with (with_reducible (show wpList _ _ _ (⟨some 33, Op.call _, _, _, _, _⟩ :: _) _ _)
                   refine builtinW rfl (.int .i64 ((16 * i + m : Nat) : Int)) ?hmin ?_
                   case hmin => (go_simp; have := HM.out; split <;> omega))
      have hw16 : IntKind.i64.wrap (16 * (i : Int) + 16) = 16 * (i : Int) + 16 := by rw [IntKind.wrap_i64]; omega
      clear hl
      refine (refNumber_any (SL.mk (some ⟨q.g, q.off + 16 * i, none⟩) m (q.cap - 16 * i) q.g (q.off + 16 * i) (partAt q.b i)) true wr HOK.out hm16).mono ?_
      rintro e4 w4 ⟨rfl, rP, hb4⟩
      obtain ⟨p, hp⟩ : ∃ p, p = partN (partAt q.b i) := ⟨_, rfl⟩
      have hpl := HOK.out.hb
      have hpe : leN (partAt q.b i) + 256 ^ m = p := by
        rw [hp]
        unfold partN
        rw [show (partAt q.b i).length = m from hpl]
      have hpb : p < 680564733841876926926749214863536422912 := by
        rw [hp]
        exact partN_lt _ (by rw [show (partAt q.b i).length = m from hpl]; exact hm16)
      rw [if_pos rfl] at rP
      rw [show leN (SL.mk (some ⟨q.g, q.off + 16 * i, none⟩) m (q.cap - 16 * i) q.g (q.off + 16 * i) (partAt q.b i)).b + 256 ^ (SL.mk (some ⟨q.g, q.off + 16 * i, none⟩) m (q.cap - 16 * i) q.g (q.off + 16 * i) (partAt q.b i)).len = p from hpe] at rP
      have HACC : Hid (accW (rN key) (partsTo q.b (i + 1)) = (accW (rN key) (partsTo q.b i) + p) * rN key % PP) := show _ = _ by
        rw [partsTo_succ, accW_snoc, show (toW (partN (partAt q.b i))).1 = w26 (partN (partAt q.b i)) from rfl, ← hp, V5_w26 _ (by omega)]
      obtain ⟨A, hAe⟩ : ∃ A, A = accW (rN key) (partsTo q.b i) := ⟨_, rfl⟩
      rw [← hAe] at hA HACC HN
      have hr := rN_lt key
      have e17 : (256 : Nat) ^ 17 = 87112285931760246646623899502532662132736 := by decide
      have e34 : (256 : Nat) ^ 34 = 7588550360256754183279148073529370729071901715047420004889892225542594864082845696 := by decide
      have hPP : PP = 1361129467683753853853498429727072845819 := rfl
      have HV1 : Hid (nV (dig A 17) = A) := show _ = _ from nV_dig A 17 (by rw [e17]; omega)
      have HV2 : Hid (nV (dig p 17) = p) := show _ = _ from nV_dig p 17 (by rw [e17]; omega)
      have HV3 : Hid (nV (dig (A + p) 17) = A + p) := show _ = _ from nV_dig (A + p) 17 (by rw [e17]; omega)
      have HV4 : Hid (nV (dig (rN key) 17) = rN key) := show _ = _ from nV_dig (rN key) 17 (by rw [e17]; omega)
      have HV5 : Hid ((A + p) * rN key < 256 ^ 34) := show _ < _ by
        have h1 : (A + p) * rN key ≤ 2722258935367507707706996859454145691648 * 1361129467683753853853498429727072845824 := Nat.mul_le_mul (by omega) (by omega)
        rw [e34]
        omega
      have HN4 := veil (HN.out.below hb4)
      have HP4 := veil (NOk.of_row rP (dig_length _ _))
      have b4 := hbel.trans (hb4.mono hs)
      have HR4 := veil (HRR.out.below hb4 HRR.out.lt)
      have HK4 := veil (HRK.out.below hb4 HRK.out.lt)
      have HO4 := veil (HRO.out.below hb4 HRO.out.lt)
      clear rP hb4 hp hpe hpl hAe HN HRR HRK HRO hbel HOK HM e17 e34 hPP hr hA hpb
      go_wp2_with fail
      refine (refAdd_any g 17 c (dig A 17) wr.heap.size 17 17 (dig p 17) w4 HN4.out HP4.out (by omega) (by omega) (dig_le _ _) (dig_le _ _)).mono ?_
      rintro e5 w5 ⟨x5, rfl, own5, hb5⟩
      rw [HV1.out, HV2.out] at own5
      obtain ⟨g5, c5, rfl⟩ := ownN own5 (by decide)
      obtain ⟨_, _, hc5, _⟩ := own_cur own5
      have HN5 := veil ((NOk.of_own own5).cut (m := 17) (by omega))
      have b5 := b4.trans (hb5.mono b4.size)
      have HR5 := veil (HR4.out.below hb5 HR4.out.lt)
      have HK5 := veil (HK4.out.below hb5 HK4.out.lt)
      have HO5 := veil (HO4.out.below hb5 HO4.out.lt)
      have hcc5 : (17 : Int) ≤ (c5 : Int) := by omega
      clear own5 hb5 HN4 HP4 b4 HR4 HK4 HO4
      go_wp2_with fail
      refine (refMul_any g5 c5 (dig (A + p) 17) (w.heap.size + 2 + 1) 17 (dig (rN key) 17) w5 HN5.out (NOk.of_row HR5.out (dig_length _ _)) (dig_le _ _) (dig_le _ _)).mono ?_
      rintro e6 w6 ⟨x6, rfl, own6, hb6⟩
      rw [HV3.out, HV4.out] at own6
      obtain ⟨g6, c6, rfl⟩ := ownN own6 (by decide)
      obtain ⟨_, _, hc6, _⟩ := own_cur own6
      have HN6 := veil (NOk.of_own own6)
      have b6 := b5.trans (hb6.mono b5.size)
      have HR6 := veil (HR5.out.below hb6 HR5.out.lt)
      have HK6 := veil (HK5.out.below hb6 HK5.out.lt)
      have HO6 := veil (HO5.out.below hb6 HO5.out.lt)
      clear own6 hb6 HN5 b5 HR5 HK5 HO5
      go_wp2_with fail
      refine (refLeft_any g6 c6 ((A + p) * rN key) HV5.out w6 HN6.out hc6).mono ?_
      rintro e7 w7 ⟨g7, c7, rfl, hN7, hb7⟩
      rw [← HACC.out] at hN7
      have b7 := b6.trans (hb7.mono b6.size)
      have HR7 := HR6.out.below hb7 HR6.out.lt
      have HK7 := HK6.out.below hb7 HK6.out.lt
      have HO7 := HO6.out.below hb7 HO6.out.lt
      clear hb7 HN6 b6 HR6 HK6 HO6
      go_wp2
      go_roundw
      case rel => exact ⟨i + 1, g7, c7, by omega, by go_num, rfl, hN7, HK7, HO7, HR7, b7⟩
      case measure => simp only [intOf]; omega
    · have hdk : decide (16 * (i : Int) < (q.len : Int)) = false := by simp; omega
      have HE : Hid (np q.b.length = i) := show _ = _ by rw [HQ.out.hb]; unfold np; omega
      clear hl
      obtain ⟨A, hAe⟩ : ∃ A, A = accW (rN key) (partsTo q.b i) := ⟨_, rfl⟩
      rw [← hAe] at hA HN
      have hsb := sN_lt128 key HK.out
      have e17 : (256 : Nat) ^ 17 = 87112285931760246646623899502532662132736 := by decide
      have hPP : PP = 1361129467683753853853498429727072845819 := rfl
      have HV1 : Hid (nV (dig A 17) = A) := show _ = _ from nV_dig A 17 (by rw [e17]; omega)
      have HV2 : Hid (nV (dig (sN key) 17) = sN key) := show _ = _ from nV_dig (sN key) 17 (by rw [e17]; omega)
      have HT : Hid (by16 (A + sN key) = tagL key q.b) := show _ = _ by
        unfold tagL tagN
        rw [HE.out, ← hAe]
        exact by16_mod (by rw [Nat.mod_mod])
      have HSL := veil (slice_ok HRK.out 16 16 16 (by rw [HK.out]; omega) (by omega))
      clear hAe e17 hPP hA hsb HE
      go_wp2_with fail
      refine (refNumber_any _ false wr HSL.out (by show 16 ≤ 16; omega)).mono ?_
      rintro e4 w4 ⟨rfl, rP, hb4⟩
      rw [if_neg (by simp), Nat.add_zero, show leN (SL.mk (some ⟨w.heap.size, 16, none⟩) 16 16 w.heap.size 16 ((key.drop 16).take 16)).b = sN key from rfl] at rP
      have HN4 := veil (HN.out.below hb4)
      have HP4 := veil (NOk.of_row rP (dig_length _ _))
      have b4 := hbel.trans (hb4.mono hs)
      have HO4 := veil (HRO.out.below hb4 HRO.out.lt)
      clear rP hb4 HN HRR HRK HRO hbel HSL
      go_wp2_with fail
      refine (refAdd_any g 17 c (dig A 17) wr.heap.size 17 17 (dig (sN key) 17) w4 HN4.out HP4.out (by omega) (by omega) (dig_le _ _) (dig_le _ _)).mono ?_
      rintro e5 w5 ⟨x5, rfl, own5, hb5⟩
      rw [HV1.out, HV2.out] at own5
      obtain ⟨g5, c5, rfl⟩ := ownN own5 (by decide)
      have HN5 := veil (NOk.of_own own5)
      have b5 := b4.trans (hb5.mono b4.size)
      have HO5 := veil (HO4.out.below hb5 HO4.out.lt)
      have hlo := HO5.out.lt
      have hs5 := b5.size
      clear own5 hb5 HN4 HP4 b4 HO4
      go_wp2_with (with_reducible (show wpList _ _ _ (⟨some 12, Op.alloc 55, _, _, _, _⟩ :: _) _ _)
                   refine alloc_row rfl 55 rfl (bs z16) (by kernel_rfl) ?_)
      go_loopw [13] (fun iv wr => ∃ (k : Nat) (zs : List By), k ≤ 16 ∧ iv = .int .i64 k ∧ Hid (zs.length = 16) ∧ Hid (∀ j, j < k → gb zs j = byteAt (A + sN key) j) ∧ NOk wr g5 34 (dig (A + sN key) 34) ∧ Row wr (w.heap.size + 1) 55 (bs z16) ∧ Row wr w5.heap.size 55 (bs zs) ∧ Below w.heap.size w wr)
        (fun iv _ => 16 - (intOf iv).toNat)
      case atStart => exact ⟨0, z16, by omega, rfl, rfl, fun j hj => by omega, HN5.out.below ((Below.refl _ w5).alloc (Nat.le_refl _) _), HO5.out.alloc _, Row.new _ _ _, b5.alloc b5.size _⟩
      case round =>
        have hg5 := HN5.out.lt
        clear HN5 HO5 b5 hdk
        obtain ⟨k, zs, hk, rfl, HL, HD, hN, rO, rZ, hbel⟩ := hrel
        by_cases h16 : k < 16
        · have hdk : decide ((k : Int) < 16) = true := by simp; omega
          have cx := hN.cell k (by omega)
          rw [dig_get _ _ _ (by omega)] at cx
          have cz := rZ.cellB (j := k) (by rw [HL.out]; exact h16)
          have fz := rZ.frozen k
          generalize v8 (gb zs k) = y0 at cz
          obtain ⟨x, hxe⟩ : ∃ x, x = (A + sN key) / 256 ^ k % 256 := ⟨_, rfl⟩
          have hx8 : x < 256 := by rw [hxe]; exact Nat.mod_lt _ (by decide)
          rw [← hxe] at cx
          have HX : Hid ((x : Int) = v8 (byteAt (A + sN key) k)) := show _ = _ by rw [v8_byteAt, hxe]
          have hw8 : IntKind.u8.wrap (x : Int) = (x : Int) := by rw [IntKind.wrap_u8]; omega
          have hp2 : (0 : Int) ≤ (k : Int) ∧ (k : Int) < 34 := by omega
          have HNV := veil hN
          clear hxe hN
          go_wp2
          go_roundw
          case rel =>
            rw [HX.out]
            have q0 := rZ.set k (.int .u8 (v8 (byteAt (A + sN key) k)))
            rw [bs_set] at q0
            refine ⟨k + 1, _, by omega, by go_num, ?_, ?_, ⟨HNV.out.len, by simp [World.setCell]; exact HNV.out.lt, fun j hj => ?_⟩, rO.other (by show w.heap.size + 1 ≠ w5.heap.size; omega) _, q0, hbel.setCell (p := ⟨w5.heap.size, k, none⟩) (by show w.heap.size ≤ w5.heap.size; omega) _⟩
            · show List.length _ = 16
              rw [List.length_set]; exact HL.out
            · intro j hj
              rw [gb_set _ (by rw [HL.out]; exact h16)]
              split
              · rename_i h; rw [h]
              · exact HD.out j (by omega)
            · rw [World.cell?_of_block (w := wr) (heap_setCell_other wr ⟨w5.heap.size, k, none⟩ g5 _ (by show g5 ≠ w5.heap.size; omega))]
              exact HNV.out.cell j hj
          case measure => simp [intOf]; omega
        · have hdk : decide ((k : Int) < 16) = false := by simp; omega
          rw [show k = 16 by omega] at HD
          have e := by16_of HL.out HD.out
          rw [HT.out] at e
          have hsz : (bs zs).size = 16 := by rw [bs_size, HL.out]
          have HE := veil e
          clear e hN
          go_wp2_with (first
            | (with_reducible (show wpList _ _ _ (⟨some 59, Op.load 55 _, _, _, _, _⟩ :: _) _ _)
               refine load_row rfl 55 _ rfl w5.heap.size rfl _ _ rZ 16 5 Tryz.underlying55 (by kernel_rfl) hsz ?_)
            | (with_reducible (show wpList _ _ _ (⟨_, Op.store 55 (.tmp 4) _, _, _, _, _⟩ :: _) _ _)
               refine store_row rfl 55 _ _ rfl (w.heap.size + 1) (bs zs) rfl rfl _ _ rO 16 (by kernel_rfl) rfl hsz (bs_one _) ?_))
          refine bodyPost_ret (result_row_tmp rfl _ _ (w.heap.size + 1) _ _ (rO.put _) 16 5 (.int .i64 0) rfl rfl Tryz.underlying55 (by kernel_rfl) hsz) rfl ⟨by rw [HE.out], bSetRow hbel (by omega) _⟩
end Go.Proofs.YtffokggejbmadaaGreatDoor
