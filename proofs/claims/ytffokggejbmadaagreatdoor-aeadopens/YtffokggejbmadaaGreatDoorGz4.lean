/-
  Out of PlLeast, PlTag, AePlain, ChaPhase, ChaOps, ChaGlob.
-/
import Derived.Test.YtffokggejbmadaaGreatDoorGz2
import Derived.Test.YtffokggejbmadaaGreatDoorGz3
import Derived.Test.YtffokggejbmadaaGreatDoorGz1

/-! What poly.least answers. -/
namespace Go.Proofs.YtffokggejbmadaaGreatDoor
open Go Go.RowKit

theorem least_low {a : List Nat} (ha : Sm a) (i : Nat) (h0 : 1 ≤ i) (h1 : i ≤ 4) (h : gn a i < 67108863) : V5 a % PP = V5 a := by
  have b0 := ha.lt 0
  have b1 := ha.lt 1
  have b2 := ha.lt 2
  have b3 := ha.lt 3
  have b4 := ha.lt 4
  apply Nat.mod_eq_of_lt
  unfold V5 PP
  rcases (show i = 1 ∨ i = 2 ∨ i = 3 ∨ i = 4 by omega) with rfl | rfl | rfl | rfl <;> omega
theorem least_first {a : List Nat} (ha : Sm a) (h : gn a 0 < 67108859) : V5 a % PP = V5 a := by
  have b1 := ha.lt 1
  have b2 := ha.lt 2
  have b3 := ha.lt 3
  have b4 := ha.lt 4
  apply Nat.mod_eq_of_lt
  unfold V5 PP
  omega
theorem least_high {a : List Nat} (h : ∀ i, 1 ≤ i → i ≤ 4 → gn a i = 67108863) (d : Nat) (h0 : gn a 0 = d + 67108859) (hd : d < 5) : V5 [d, 0, 0, 0, 0] = V5 a % PP := by
  have e : V5 a = d + PP := by
    unfold V5 PP
    have h1 := h 1 (by omega) (by omega)
    have h2 := h 2 (by omega) (by omega)
    have h3 := h 3 (by omega) (by omega)
    have h4 := h 4 (by omega) (by omega)
    omega
  rw [e, Nat.add_mod_right, Nat.mod_eq_of_lt (by unfold PP; omega)]
  simp [V5, gn]

set_option maxRecDepth 20000 in
set_option maxHeartbeats 1000000 in
theorem least_any (a : List Nat) (ha : Sm a) (w : World) :
    Calls Tryz.prog 110 #[.agg (ns a)] w fun e w' => ∃ ys, e = .returned (.agg (ns ys)) ∧ Sm ys ∧ V5 ys = V5 a % PP ∧ Below w.heap.size w w' := by
  have HA := veil ha
  clear ha
  have hsz : (ns a).size = 5 := by rw [ns_size, HA.out.len]
  go_enter Tryz.func110, Tryz.ntmps110
  go_wp2
  go_loopw [7] (fun iv wr => ∃ (k : Nat), k ≤ 4 ∧ iv = .int .i64 k ∧ Hid (∀ i, 1 ≤ i → i ≤ k → gn a i = 67108863) ∧ Row wr w.heap.size 163 (ns a) ∧ Row wr (w.heap.size + 1) 163 (ns (List.replicate 5 0)) ∧ Below w.heap.size w wr)
    (fun iv _ => 4 - (intOf iv).toNat)
  case atStart => exact ⟨0, by omega, rfl, fun i h1 h2 => by omega, (Row.new _ _ _).alloc _, Row.new1 _ _ _ (ns (List.replicate 5 0)), ((Below.refl _ w).alloc (Nat.le_refl _) _).alloc (by simp) _⟩
  case round =>
    obtain ⟨k, hk, rfl, HD, r0, r1, hbel⟩ := hrel
    by_cases h4 : k < 4
    · have hdk : decide ((k : Int) < 4) = true := by simp; omega
      have cx := r0.cellN (j := 1 + k) (by rw [HA.out.len]; omega)
      obtain ⟨x, hxe⟩ : ∃ x, x = gn a (1 + k) := ⟨_, rfl⟩
      have hx26 : x < 67108864 := by rw [hxe]; exact HA.out.lt _
      rw [← hxe] at cx
      by_cases hm : x < 67108863
      · have HV : Hid (V5 a = V5 a % PP) := show _ = _ from (least_low HA.out (1 + k) (by omega) (by omega) (by rw [← hxe]; exact hm)).symm
        have hd : decide ((x : Int) < 67108863) = true := by simp; omega
        clear hxe hm
        go_wp2_with (first
          | (with_reducible (show wpList _ _ _ (⟨_, Op.load 163 _, _, _, _, _⟩ :: _) _ _)
             refine load_row rfl 163 _ rfl w.heap.size rfl _ _ r0 5 75 Tryz.underlying163 (by kernel_rfl) hsz ?_)
          | (with_reducible (show wpList _ _ _ (⟨_, Op.store 163 _ _, _, _, _, _⟩ :: _) _ _)
             refine store_row rfl 163 _ _ rfl (w.heap.size + 1) (ns a) rfl rfl _ _ r1 5 (by kernel_rfl) (by rw [ns_size, List.length_replicate]) hsz (ns_one _) ?_))
        refine bodyPost_ret (result_row rfl _ _ (w.heap.size + 1) _ _ (r1.put _) 5 75 rfl Tryz.underlying163 (by kernel_rfl) hsz) rfl ⟨a, rfl, HA.out, HV.out, bSetRow hbel (by omega) _⟩
      · have hd : decide ((x : Int) < 67108863) = false := by simp; omega
        have HD' : Hid (∀ i, 1 ≤ i → i ≤ k + 1 → gn a i = 67108863) := show ∀ i, 1 ≤ i → i ≤ k + 1 → gn a i = 67108863 from fun i h1 h2 => by
          by_cases hi : i ≤ k
          · exact HD.out i h1 hi
          · rw [show i = 1 + k by omega, ← hxe]; omega
        clear hxe hm
        go_wp2
        go_roundw
        case rel => exact ⟨k + 1, by omega, by go_num, HD', r0, r1, hbel⟩
        case measure => simp [intOf]; omega
    · have hdk : decide ((k : Int) < 4) = false := by simp; omega
      rw [show k = 4 by omega] at HD
      have cx := r0.cellN (j := 0) (by rw [HA.out.len]; omega)
      obtain ⟨x, hxe⟩ : ∃ x, x = gn a 0 := ⟨_, rfl⟩
      have hx26 : x < 67108864 := by rw [hxe]; exact HA.out.lt _
      rw [← hxe] at cx
      by_cases hm : x < 67108859
      · have HV : Hid (V5 a = V5 a % PP) := show _ = _ from (least_first HA.out (by rw [← hxe]; exact hm)).symm
        have hd : decide ((x : Int) < 67108859) = true := by simp; omega
        clear hxe hm
        go_wp2_with (first
          | (with_reducible (show wpList _ _ _ (⟨_, Op.load 163 _, _, _, _, _⟩ :: _) _ _)
             refine load_row rfl 163 _ rfl w.heap.size rfl _ _ r0 5 75 Tryz.underlying163 (by kernel_rfl) hsz ?_)
          | (with_reducible (show wpList _ _ _ (⟨_, Op.store 163 _ _, _, _, _, _⟩ :: _) _ _)
             refine store_row rfl 163 _ _ rfl (w.heap.size + 1) (ns a) rfl rfl _ _ r1 5 (by kernel_rfl) (by rw [ns_size, List.length_replicate]) hsz (ns_one _) ?_))
        refine bodyPost_ret (result_row rfl _ _ (w.heap.size + 1) _ _ (r1.put _) 5 75 rfl Tryz.underlying163 (by kernel_rfl) hsz) rfl ⟨a, rfl, HA.out, HV.out, bSetRow hbel (by omega) _⟩
      · have hd : decide ((x : Int) < 67108859) = false := by simp; omega
        obtain ⟨d, hdx⟩ : ∃ d : Nat, x = d + 67108859 := ⟨x - 67108859, by omega⟩
        have hd5 : d < 5 := by omega
        have HV : Hid (V5 [d, 0, 0, 0, 0] = V5 a % PP) := show _ = _ from least_high HD.out d (by rw [← hxe]; exact hdx) hd5
        have E1 : IntKind.u64.wrap ((x : Int) - 67108859) = (d : Int) := by rw [IntKind.wrap_u64]; omega
        clear hx26
        have HS : Hid (Sm [d, 0, 0, 0, 0]) := show Sm _ from ⟨rfl, fun i => by
          match i with
          | 0 => show d < _; omega
          | 1 => show 0 < _; decide
          | 2 => show 0 < _; decide
          | 3 => show 0 < _; decide
          | 4 => show 0 < _; decide
          | i + 5 => rw [gn_out (by simp)]; omega⟩
        clear hdx hm hxe
        iterate 40 go_step
        clear hd
        go_wp2_with (first
          | (with_reducible (show wpList _ _ _ (⟨_, Op.build 163 _, _, _, _, _⟩ :: _) _ _)
             refine build_row rfl 163 _ rfl #[.int .u64 (d : Int), .int .u64 0, .int .u64 0, .int .u64 0, .int .u64 0] (by kernel_rfl) ?_)
          | (with_reducible (show wpList _ _ _ (⟨_, Op.store 163 _ _, _, _, _, _⟩ :: _) _ _)
             refine store_row rfl 163 _ _ rfl (w.heap.size + 1) #[.int .u64 (d : Int), .int .u64 0, .int .u64 0, .int .u64 0, .int .u64 0] rfl rfl _ _ r1 5 (by kernel_rfl) (by rw [ns_size, List.length_replicate]) rfl (by simp [Value.oneCell']) ?_))
        refine bodyPost_ret (result_row rfl _ _ (w.heap.size + 1) _ _ (r1.put #[.int .u64 (d : Int), .int .u64 0, .int .u64 0, .int .u64 0, .int .u64 0]) 5 75 rfl Tryz.underlying163 (by kernel_rfl) rfl) rfl ⟨[d, 0, 0, 0, 0], rfl, HS.out, HV.out, bSetRow hbel (by omega) _⟩
end Go.Proofs.YtffokggejbmadaaGreatDoor

/-! What poly.Tag answers. -/
namespace Go.Proofs.YtffokggejbmadaaGreatDoor
open Go Go.RowKit Go.Shelf
attribute [local go_sem] Oper.semAt_some

/-- What is left, when all parts have been told. -/
def accW (r : Nat) (xs : List Wn) : Nat := xs.foldl (fun a x => (a + V5 x.1) * r % PP) 0
theorem accW_snoc (r : Nat) (xs : List Wn) (x : Wn) : accW r (xs ++ [x]) = (accW r xs + V5 x.1) * r % PP := by simp [accW]
/-- A key's s. -/
def sN (key : List By) : Nat := leN ((key.drop 16).take 16)
theorem sN_lt (key : List By) (hk : key.length = 32) : sN key < 1361129467683753853853498429727072845824 := by
  unfold sN leN
  have h := leK_lt ((key.drop 16).take 16) ((key.drop 16).take 16).length
  rw [show ((key.drop 16).take 16).length = 16 by rw [List.length_take, List.length_drop, hk]; rfl] at h ⊢
  exact Nat.lt_trans h (by decide)
theorem sN_lt128 (key : List By) (hk : key.length = 32) : sN key < 340282366920938463463374607431768211456 := by
  unfold sN leN
  have h := leK_lt ((key.drop 16).take 16) ((key.drop 16).take 16).length
  rw [show ((key.drop 16).take 16).length = 16 by rw [List.length_take, List.length_drop, hk]; rfl] at h ⊢
  exact Nat.lt_of_lt_of_le h (by decide)
theorem by16_mod {u v : Nat} (h : u % 340282366920938463463374607431768211456 = v % 340282366920938463463374607431768211456) : by16 u = by16 v := by
  have key : ∀ (x i : Nat), i < 16 → x / 256 ^ i % 256 = x % 340282366920938463463374607431768211456 / 256 ^ i % 256 := fun x i hi => by
    rcases (show i = 0 ∨ i = 1 ∨ i = 2 ∨ i = 3 ∨ i = 4 ∨ i = 5 ∨ i = 6 ∨ i = 7 ∨ i = 8 ∨ i = 9 ∨ i = 10 ∨ i = 11 ∨ i = 12 ∨ i = 13 ∨ i = 14 ∨ i = 15 by omega) with rfl | rfl | rfl | rfl | rfl | rfl | rfl | rfl | rfl | rfl | rfl | rfl | rfl | rfl | rfl | rfl <;> simp only [Nat.reducePow] <;> omega
  refine by16_of (by16_length u) (fun i hi => ?_)
  have e : gb (by16 u) i = byteAt u i := by simp [by16, gb, hi]
  rw [e]
  unfold byteAt
  apply BitVec.eq_of_toNat_eq
  rw [BitVec.toNat_ofNat, BitVec.toNat_ofNat]
  show u / 256 ^ i % 256 = v / 256 ^ i % 256
  rw [key u i hi, key v i hi, h]
/-- The tag, as a number: a and s. -/
def tagN (key b : List By) : Nat := (accW (rN key) (partsTo b (np b.length)) + sN key) % 340282366920938463463374607431768211456
def tagL (key b : List By) : List By := by16 (tagN key b)

def z16 : List By := List.replicate 16 0
def z5 : List Nat := List.replicate 5 0
theorem gn_z5 (i : Nat) : gn z5 i = 0 := by
  unfold gn z5
  rw [List.getElem?_replicate]
  split <;> rfl
/-- The slots while r and s are found. -/
def tm3 (key : List By) (q : SL) (B : Nat) (x6 x7 x14 x15 x16 x17 : Value) : Act := { tmps := #[.agg (bs key), .slice q.a q.len q.cap, .pointer (some ⟨B, 0, none⟩), undef, .pointer (some ⟨B + 1, 0, none⟩), .int .i64 0, x6, x7, undef, undef, .slice q.a q.len q.cap, .int .i64 (q.len : Int), .bool false, undef, x14, x15, x16, x17, undef, undef, undef, undef, undef, undef, undef, undef, undef, undef, undef, undef, undef, undef], defers := [] }
/-- What holds there. -/
structure I3 (key : List By) (B : Nat) (w0 : World) (x6 x7 x14 x15 x16 x17 : Value) (l : Array Bool) (W : World) : Prop where
  bel : Below w0.heap.size w0 W
  f0 : On l 0 → x14 = .agg (bs key)
  f1 : On l 1 → x15 = .agg (ns (w26 (rN key)))
  f2 : On l 2 → x16 = .slice (some ⟨B, 16, none⟩) 16 16
  f3 : On l 3 → x17 = .agg (ns (w26 (sN key)))
  f4 : On l 4 → ∃ g cs, x6 = .pointer (some ⟨g, 0, none⟩) ∧ w0.heap.size ≤ g ∧ Row W g 163 (ns cs) ∧ cs.length = 5 ∧ (On l 6 → cs = w26 (rN key))
  f5 : On l 5 → ∃ g cs, x7 = .pointer (some ⟨g, 0, none⟩) ∧ w0.heap.size ≤ g ∧ Row W g 163 (ns cs) ∧ cs.length = 5 ∧ (On l 7 → cs = w26 (sN key))
  f45 : On l 4 → On l 5 → x6 ≠ x7
  f6 : On l 6 → On l 4 ∧ On l 5
  f7 : On l 7 → On l 5
theorem I3.call {key : List By} {B : Nat} {w0 : World} {x6 x7 x14 x15 x16 x17 : Value} {l : Array Bool} {W W' : World} (h : I3 key B w0 x6 x7 x14 x15 x16 x17 l W) (hb : Below W.heap.size W W') : I3 key B w0 x6 x7 x14 x15 x16 x17 l W' where
  bel := h.bel.trans (hb.mono h.bel.size)
  f0 := h.f0
  f1 := h.f1
  f2 := h.f2
  f3 := h.f3
  f4 := fun e => by
    obtain ⟨g, cs, h1, h2, h3, h4⟩ := h.f4 e
    exact ⟨g, cs, h1, h2, h3.below hb h3.lt, h4⟩
  f5 := fun e => by
    obtain ⟨g, cs, h1, h2, h3, h4⟩ := h.f5 e
    exact ⟨g, cs, h1, h2, h3.below hb h3.lt, h4⟩
  f45 := h.f45
  f6 := h.f6
  f7 := h.f7
def dep3 : Nat → List Nat
  | 1 => [0]
  | 3 => [2]
  | 6 => [1, 4, 5]
  | 7 => [3, 5, 4]
  | _ => []

/-- The slots in a round. -/
def tm7 (key : List By) (q : SL) (B g6 g7 gA bk : Nat) (X : List Nat) (x21 x22 x23 x24 x25 : Value) : Act := { tmps := #[.agg (bs key), .slice q.a q.len q.cap, .pointer (some ⟨B, 0, none⟩), undef, .pointer (some ⟨B + 1, 0, none⟩), .int .i64 0, .pointer (some ⟨g6, 0, none⟩), .pointer (some ⟨g7, 0, none⟩), .pointer (some ⟨gA, 0, none⟩), .pointer (some ⟨bk, 0, none⟩), .slice q.a q.len q.cap, .int .i64 (q.len : Int), .bool false, undef, .agg (bs key), .agg (ns (w26 (rN key))), .slice (some ⟨B, 16, none⟩) 16 16, .agg (ns (w26 (sN key))), .slice q.a q.len q.cap, .func (.func 124) #[] #[.pointer (some ⟨gA + 1, 0, none⟩)], .agg (ns X), x21, x22, x23, x24, x25, undef, undef, undef, undef, undef, undef], defers := [] }
/-- What holds in a round. -/
structure I7 (A X R : List Nat) (r st : Nat) (V0 : World) (x21 x22 x23 x24 x25 : Value) (l : Array Bool) (V : World) : Prop where
  f0 : On l 0 → x21 = .agg (ns A)
  f1 : On l 1 → x22 = .agg (ns X)
  f2 : On l 2 → ∃ ys, x23 = .agg (ns ys) ∧ Sm ys ∧ Cy (V5 A + V5 X) ys
  f3 : On l 3 → x24 = .agg (ns R)
  f4 : On l 4 → ∃ zs, x25 = .agg (ns zs) ∧ Sm zs ∧ V5 zs % PP = (V5 A + V5 X) * r % PP
  f5 : ¬ On l 5 → Below V0.heap.size V0 V
  f6 : On l 5 → ∃ zs V1, Below V0.heap.size V0 V1 ∧ V = V1.setRow st (ns zs) ∧ Sm zs ∧ V5 zs % PP = (V5 A + V5 X) * r % PP
  f7 : On l 5 → ∀ i, i < 5 → On l i
theorem not_set {l : Array Bool} {i : Nat} (h : ¬ On l 5) (hi : i ≠ 5) : ¬ On (l.setIfInBounds i true) 5 := fun e => h (e.of_set hi)
def dep7 : Nat → List Nat
  | 2 => [0, 1]
  | 4 => [2, 3]
  | 5 => [0, 1, 2, 3, 4]
  | _ => []
theorem mod_step (a x y r z : Nat) (h : z % PP = y * r % PP) (hy : y % PP = (a + x) % PP) : z % PP = (a + x) * r % PP := by
  rw [h, Nat.mul_mod, hy, ← Nat.mul_mod]
theorem acc_step (a x r acc : Nat) (h : a % PP = acc) : (a + x) * r % PP = (acc + x) * r % PP := by
  rw [← h, Nat.mul_mod, Nat.mul_mod ((a % PP) + x), Nat.mod_add_mod]
theorem rN_lt (key : List By) : rN key < 1361129467683753853853498429727072845824 := by
  unfold rN
  exact Nat.lt_trans (leK_lt _ _) (by decide)

/-- The slots at the end. -/
def tm8 (key : List By) (q : SL) (B g6 g7 gA D : Nat) (x26 x27 x28 x29 x30 x31 : Value) : Act := { tmps := #[.agg (bs key), .slice q.a q.len q.cap, .pointer (some ⟨B, 0, none⟩), undef, .pointer (some ⟨B + 1, 0, none⟩), .int .i64 0, .pointer (some ⟨g6, 0, none⟩), .pointer (some ⟨g7, 0, none⟩), .pointer (some ⟨gA, 0, none⟩), undef, .slice q.a q.len q.cap, .int .i64 (q.len : Int), .bool false, undef, .agg (bs key), .agg (ns (w26 (rN key))), .slice (some ⟨B, 16, none⟩) 16 16, .agg (ns (w26 (sN key))), .slice q.a q.len q.cap, .func (.func 124) #[] #[.pointer (some ⟨gA + 1, 0, none⟩)], undef, undef, undef, undef, undef, undef, x26, x27, x28, x29, x30, x31], defers := [{ target := .collected D, args := #[] }] }
/-- What holds at the end. -/
structure I8 (A S : List Nat) (sn : Nat) (T : List By) (B : Nat) (V : World) (x26 x27 x28 x29 x30 x31 : Value) (l : Array Bool) (U : World) : Prop where
  f0 : On l 0 → x26 = .agg (ns A)
  f1 : On l 1 → ∃ a1, x27 = .agg (ns a1) ∧ Sm a1 ∧ V5 a1 = V5 A % PP
  f2 : On l 2 → ∃ a2, x28 = .agg (ns a2) ∧ Sm a2 ∧ V5 a2 = V5 A % PP % 340282366920938463463374607431768211456
  f3 : On l 3 → x29 = .agg (ns S)
  f4 : On l 4 → ∃ a3, x30 = .agg (ns a3) ∧ Sm a3 ∧ V5 a3 = V5 A % PP % 340282366920938463463374607431768211456 + sn
  f5 : On l 5 → x31 = .agg (bs T)
  f6 : ¬ On l 6 → Below V.heap.size V U
  f7 : On l 6 → ∃ U1, Below V.heap.size V U1 ∧ U = U1.setRow (B + 1) (bs T)
  f8 : On l 6 → ∀ i, i < 6 → On l i
theorem not_set6 {l : Array Bool} {i : Nat} (h : ¬ On l 6) (hi : i ≠ 6) : ¬ On (l.setIfInBounds i true) 6 := fun e => h (e.of_set hi)
def dep8 : Nat → List Nat
  | 1 => [0]
  | 2 => [1]
  | 4 => [2, 3]
  | 5 => [4]
  | 6 => [0, 1, 2, 3, 4, 5]
  | 7 => [6]
  | _ => []

set_option maxRecDepth 100000 in
set_option maxHeartbeats 1000000 in
theorem tag_any (key : List By) (hk : key.length = 32) (q : SL) (w : World) (hq : q.Ok w) (hl : q.len ≤ 4194304) :
    Calls Tryz.prog 67 #[.agg (bs key), .slice q.a q.len q.cap] w fun e w' => e = .returned (.tuple #[.agg (bs (tagL key q.b)), .int .i64 0]) ∧ Below w.heap.size w w' := by
  have HK := veil hk
  have HQ := veil hq
  have hgt : ¬ ((4194304 : Int) < (q.len : Int)) := by omega
  refine (callsIn_wide (n := 4)).1 ?_
  refine callsIn_of_wp_marks Tryz.func67 rfl trivial ?_ rfl
  simp only [Tryz.ntmps67, List.size_toArray, List.length_cons, List.length_nil, Nat.reduceAdd, Nat.reduceSub, Array.replicate_succ, Array.replicate_zero, List.push_toArray, List.append_toArray, List.nil_append, List.cons_append]
  clear hk hq
  gi_wp2_with (with_reducible (show wpListIn _ _ _ _ _ (⟨_, Op.alloc 55, _, _, _, _⟩ :: _) _ _)
               refine alloc_rowIn rfl 55 rfl (bs z16) (by kernel_rfl) ?_)
  obtain ⟨w0, hw0⟩ : ∃ w0, w0 = (w.alloc (.cells (bs key) 49)).alloc (.cells (bs z16) 55) := ⟨_, rfl⟩
  rw [← hw0]
  have rk : Row w0 w.heap.size 49 (bs key) := by rw [hw0]; exact (Row.new _ _ _).alloc _
  have ro : Row w0 (w.heap.size + 1) 55 (bs z16) := by rw [hw0]; exact Row.new1 _ _ _ _
  have b0 : Below w.heap.size w w0 := by rw [hw0]; exact ((Below.refl _ w).alloc (Nat.le_refl _) _).alloc (by simp) _
  have hs0 : w0.heap.size = w.heap.size + 2 := by rw [hw0]; simp
  clear hw0
  refine wpIn_region_any (by kernel_rfl) ?_
  refine anyIn_inv (Inv := fun l a W => ∃ x6 x7 x14 x15 x16 x17, a = tm3 key q w.heap.size x6 x7 x14 x15 x16 x17 ∧ I3 key w.heap.size w0 x6 x7 x14 x15 x16 x17 l W) dep3 8 (by kernel_rfl) ?step ?done _ _ _ _ rfl (by decide) ⟨undef, undef, undef, undef, undef, undef, rfl, ⟨(Below.refl _ _).drew, fun h => absurd h (On.none _ _), fun h => absurd h (On.none _ _), fun h => absurd h (On.none _ _), fun h => absurd h (On.none _ _), fun h => absurd h (On.none _ _), fun h => absurd h (On.none _ _), fun h => absurd h (On.none _ _), fun h => absurd h (On.none _ _), fun h => absurd h (On.none _ _)⟩⟩
  case step =>
    rintro l a W i hlz ⟨x6, x7, x14, x15, x16, x17, rfl, h⟩ hi hno hdep
    match i, hi, hno, hdep with
    | 0, _, _, _ =>
      have rW := rk.below h.bel rk.lt
      refine OI_value rfl rfl (about_none (by intro c h; cases h)) (by intro c h; cases h) (.agg (bs key)) W (run_load_row 49 _ rfl w.heap.size rfl _ _ 32 5 Tryz.underlying49 (by kernel_rfl) (by rw [bs_size, HK.out]) W rW) ?_
      exact ⟨x6, x7, _, x15, x16, x17, rfl, ⟨h.bel, fun _ => rfl, fun e => h.f1 (e.of_set (by decide)), fun e => h.f2 (e.of_set (by decide)), fun e => h.f3 (e.of_set (by decide)), fun e => by
        obtain ⟨g, cs, h1, h2, h3, h4, h5⟩ := h.f4 (e.of_set (by decide))
        exact ⟨g, cs, h1, h2, h3, h4, fun e => h5 (e.of_set (by decide))⟩, fun e => by
        obtain ⟨g, cs, h1, h2, h3, h4, h5⟩ := h.f5 (e.of_set (by decide))
        exact ⟨g, cs, h1, h2, h3, h4, fun e => h5 (e.of_set (by decide))⟩, fun e e' => h.f45 (e.of_set (by decide)) (e'.of_set (by decide)), fun e => ⟨(h.f6 (e.of_set (by decide))).1.set, (h.f6 (e.of_set (by decide))).2.set⟩, fun e => (h.f7 (e.of_set (by decide))).set⟩⟩
    | 1, _, _, hdep =>
      have e0 := h.f0 (hdep 0 (by simp [dep3]))
      subst e0
      refine OI_call rfl rfl (by intro c h; cases h) 103 #[.agg (bs key)] (fun _ _ => trivial) (by kernel_rfl) (by decide) ?_
      refine (callsIn_wide.2 (cleared_any key HK.out W)).mono ?_
      rintro e w' ⟨ys, rfl, hsm, hv, hb⟩
      have hys : ys = w26 (rN key) := by rw [sm_eq hsm, hv]
      subst hys
      have h' := h.call hb
      exact ⟨_, rfl, x6, x7, _, _, x16, x17, rfl, ⟨h'.bel, fun e => rfl, fun e => rfl, fun e => h'.f2 (e.of_set (by decide)), fun e => h'.f3 (e.of_set (by decide)), fun e => by
        obtain ⟨g, cs, h1, h2, h3, h4, h5⟩ := h'.f4 (e.of_set (by decide))
        exact ⟨g, cs, h1, h2, h3, h4, fun e => h5 (e.of_set (by decide))⟩, fun e => by
        obtain ⟨g, cs, h1, h2, h3, h4, h5⟩ := h'.f5 (e.of_set (by decide))
        exact ⟨g, cs, h1, h2, h3, h4, fun e => h5 (e.of_set (by decide))⟩, fun e e' => h'.f45 (e.of_set (by decide)) (e'.of_set (by decide)), fun e => ⟨(h'.f6 (e.of_set (by decide))).1.set, (h'.f6 (e.of_set (by decide))).2.set⟩, fun e => (h'.f7 (e.of_set (by decide))).set⟩⟩
    | 2, _, _, _ =>
      refine OI_value rfl rfl (about_none (by intro c h; cases h)) (by intro c h; cases h) (.slice (some ⟨w.heap.size, 16, none⟩) 16 16) W (by unfold tm3; go_simp) ?_
      exact ⟨x6, x7, x14, x15, _, x17, rfl, ⟨h.bel, fun e => h.f0 (e.of_set (by decide)), fun e => h.f1 (e.of_set (by decide)), fun e => rfl, fun e => h.f3 (e.of_set (by decide)), fun e => by
        obtain ⟨g, cs, h1, h2, h3, h4, h5⟩ := h.f4 (e.of_set (by decide))
        exact ⟨g, cs, h1, h2, h3, h4, fun e => h5 (e.of_set (by decide))⟩, fun e => by
        obtain ⟨g, cs, h1, h2, h3, h4, h5⟩ := h.f5 (e.of_set (by decide))
        exact ⟨g, cs, h1, h2, h3, h4, fun e => h5 (e.of_set (by decide))⟩, fun e e' => h.f45 (e.of_set (by decide)) (e'.of_set (by decide)), fun e => ⟨(h.f6 (e.of_set (by decide))).1.set, (h.f6 (e.of_set (by decide))).2.set⟩, fun e => (h.f7 (e.of_set (by decide))).set⟩⟩
    | 3, _, _, hdep =>
      have e2 := h.f2 (hdep 2 (by simp [dep3]))
      subst e2
      have rW := rk.below h.bel rk.lt
      refine OI_call rfl rfl (by intro c h; cases h) 104 #[.slice (some ⟨w.heap.size, 16, none⟩) 16 16] (fun _ _ => trivial) (by kernel_rfl) (by decide) ?_
      refine (callsIn_wide.2 (numberOf_any _ W (slice_ok rW 16 16 16 (by rw [HK.out]; omega) (by omega)) (by show 16 ≤ 17; omega) (sN_lt key HK.out))).mono ?_
      rintro e w' ⟨ys, rfl, hsm, hv, hb⟩
      have hys : ys = w26 (sN key) := by rw [sm_eq hsm, hv]; rfl
      subst hys
      have h' := h.call hb
      exact ⟨_, rfl, x6, x7, x14, x15, _, _, rfl, ⟨h'.bel, fun e => h'.f0 (e.of_set (by decide)), fun e => h'.f1 (e.of_set (by decide)), fun e => rfl, fun e => rfl, fun e => by
        obtain ⟨g, cs, h1, h2, h3, h4, h5⟩ := h'.f4 (e.of_set (by decide))
        exact ⟨g, cs, h1, h2, h3, h4, fun e => h5 (e.of_set (by decide))⟩, fun e => by
        obtain ⟨g, cs, h1, h2, h3, h4, h5⟩ := h'.f5 (e.of_set (by decide))
        exact ⟨g, cs, h1, h2, h3, h4, fun e => h5 (e.of_set (by decide))⟩, fun e e' => h'.f45 (e.of_set (by decide)) (e'.of_set (by decide)), fun e => ⟨(h'.f6 (e.of_set (by decide))).1.set, (h'.f6 (e.of_set (by decide))).2.set⟩, fun e => (h'.f7 (e.of_set (by decide))).set⟩⟩
    | 4, _, hno, _ =>
      refine OI_value rfl rfl (about_none (by intro c h; cases h)) (by intro c h; cases h) (.pointer (some ⟨W.heap.size, 0, none⟩)) (W.alloc (.cells (ns z5) 163)) (exec_alloc_row 163 rfl (ns z5) (by kernel_rfl)) ?_
      exact ⟨_, x7, x14, x15, x16, x17, rfl, ⟨h.bel.alloc h.bel.size _, fun e => h.f0 (e.of_set (by decide)), fun e => h.f1 (e.of_set (by decide)), fun e => h.f2 (e.of_set (by decide)), fun e => h.f3 (e.of_set (by decide)), fun e => ⟨_, z5, rfl, h.bel.size, Row.new _ _ _, rfl, fun e => absurd (h.f6 (e.of_set (by decide))).1 hno⟩, fun e => by
        obtain ⟨g, cs, h1, h2, h3, h4, h5⟩ := h.f5 (e.of_set (by decide))
        exact ⟨g, cs, h1, h2, h3.alloc _, h4, fun e => h5 (e.of_set (by decide))⟩, fun e e' => by
        obtain ⟨g, cs, h1, h2, h3, h4, h5⟩ := h.f5 (e'.of_set (by decide))
        have := h3.lt
        rw [h1]
        intro he
        injection he with he
        injection he with he
        injection he with he
        omega, fun e => absurd (h.f6 (e.of_set (by decide))).1 hno, fun e => (h.f7 (e.of_set (by decide))).set⟩⟩
    | 5, _, hno, _ =>
      refine OI_value rfl rfl (about_none (by intro c h; cases h)) (by intro c h; cases h) (.pointer (some ⟨W.heap.size, 0, none⟩)) (W.alloc (.cells (ns z5) 163)) (exec_alloc_row 163 rfl (ns z5) (by kernel_rfl)) ?_
      exact ⟨x6, _, x14, x15, x16, x17, rfl, ⟨h.bel.alloc h.bel.size _, fun e => h.f0 (e.of_set (by decide)), fun e => h.f1 (e.of_set (by decide)), fun e => h.f2 (e.of_set (by decide)), fun e => h.f3 (e.of_set (by decide)), fun e => by
        obtain ⟨g, cs, h1, h2, h3, h4, h5⟩ := h.f4 (e.of_set (by decide))
        exact ⟨g, cs, h1, h2, h3.alloc _, h4, fun e => h5 (e.of_set (by decide))⟩, fun e => ⟨_, z5, rfl, h.bel.size, Row.new _ _ _, rfl, fun e => absurd (h.f7 (e.of_set (by decide))) hno⟩, fun e e' => by
        obtain ⟨g, cs, h1, h2, h3, h4, h5⟩ := h.f4 (e.of_set (by decide))
        have := h3.lt
        rw [h1]
        intro he
        injection he with he
        injection he with he
        injection he with he
        omega, fun e => absurd (h.f6 (e.of_set (by decide))).2 hno, fun e => absurd (h.f7 (e.of_set (by decide))) hno⟩⟩
    | 6, _, hno, hdep =>
      have o4 := hdep 4 (by simp [dep3])
      have o5 := hdep 5 (by simp [dep3])
      have e1 := h.f1 (hdep 1 (by simp [dep3]))
      obtain ⟨g, cs, h1, h2, h3, h4, h5⟩ := h.f4 o4
      obtain ⟨g', cs', h1', h2', h3', h4', h5'⟩ := h.f5 o5
      have hne : g ≠ g' := fun e => h.f45 o4 o5 (by rw [h1, h1', e])
      have f0 := h.f0
      have f2 := h.f2
      have f3 := h.f3
      have f7 := h.f7
      have hbel := h.bel
      subst e1 h1 h1'
      clear h
      refine OI_skip rfl rfl (about_none (by intro c h; cases h)) (by intro c h; cases h) (W.setRow g (ns (w26 (rN key)))) (run_store_row 163 _ _ rfl g (ns (w26 (rN key))) rfl rfl _ _ h3 5 (by kernel_rfl) (by rw [ns_size, h4]) rfl (ns_one _)) ?_
      exact ⟨_, _, x14, _, x16, x17, rfl, ⟨bSetRow hbel h2 _, fun e => f0 (e.of_set (by decide)), fun e => rfl, fun e => f2 (e.of_set (by decide)), fun e => f3 (e.of_set (by decide)), fun e => ⟨g, _, rfl, h2, h3.put _, rfl, fun _ => rfl⟩, fun e => ⟨g', cs', rfl, h2', h3'.putOther (Ne.symm hne) _, h4', fun e => h5' (e.of_set (by decide))⟩, fun e e' he => by
        injection he with he
        injection he with he
        injection he with he
        exact hne he, fun e => ⟨o4.set, o5.set⟩, fun e => o5.set⟩⟩
    | 7, _, hno, hdep =>
      have o4 := hdep 4 (by simp [dep3])
      have o5 := hdep 5 (by simp [dep3])
      have e3 := h.f3 (hdep 3 (by simp [dep3]))
      obtain ⟨g, cs, h1, h2, h3, h4, h5⟩ := h.f4 o4
      obtain ⟨g', cs', h1', h2', h3', h4', h5'⟩ := h.f5 o5
      have hne : g ≠ g' := fun e => h.f45 o4 o5 (by rw [h1, h1', e])
      have f0 := h.f0
      have f1 := h.f1
      have f2 := h.f2
      have hbel := h.bel
      subst e3 h1 h1'
      clear h
      refine OI_skip rfl rfl (about_none (by intro c h; cases h)) (by intro c h; cases h) (W.setRow g' (ns (w26 (sN key)))) (run_store_row 163 _ _ rfl g' (ns (w26 (sN key))) rfl rfl _ _ h3' 5 (by kernel_rfl) (by rw [ns_size, h4']) rfl (ns_one _)) ?_
      exact ⟨_, _, x14, x15, x16, _, rfl, ⟨bSetRow hbel h2' _, fun e => f0 (e.of_set (by decide)), fun e => f1 (e.of_set (by decide)), fun e => f2 (e.of_set (by decide)), fun e => rfl, fun e => ⟨g, cs, rfl, h2, h3.putOther hne _, h4, fun e => h5 (e.of_set (by decide))⟩, fun e => ⟨g', _, rfl, h2', h3'.put _, rfl, fun _ => rfl⟩, fun e e' he => by
        injection he with he
        injection he with he
        injection he with he
        exact hne he, fun e => ⟨o4.set, o5.set⟩, fun e => o5.set⟩⟩
  case done =>
    rintro l a W ⟨x6, x7, x14, x15, x16, x17, rfl, h⟩ hon
    have e14 := h.f0 (hon 0 (by omega))
    have e15 := h.f1 (hon 1 (by omega))
    have e16 := h.f2 (hon 2 (by omega))
    have e17 := h.f3 (hon 3 (by omega))
    obtain ⟨g6, cs6, e6, k6, r6, _, h6⟩ := h.f4 (hon 4 (by omega))
    obtain ⟨g7, cs7, e7, k7, r7, _, h7⟩ := h.f5 (hon 5 (by omega))
    have hne : g6 ≠ g7 := fun e => h.f45 (hon 4 (by omega)) (hon 5 (by omega)) (by rw [e6, e7, e])
    rw [h6 (hon 6 (by omega))] at r6
    rw [h7 (hon 7 (by omega))] at r7
    have hb1 := h.bel
    subst e14 e15 e16 e17 e6 e7
    clear h hon h6 h7
    have roW := ro.below hb1 ro.lt
    have bW := b0.trans (hb1.mono (by omega))
    have hsW := hb1.size
    have hqW : q.Ok W := HQ.out.below (bW.mono (Nat.le_refl _))
    have HQW := veil hqW
    clear ro rk b0 hb1 hqW
    unfold tm3
    gi_wp2_with (with_reducible (show wpListIn _ _ _ _ _ (⟨_, Op.alloc 163, _, _, _, _⟩ :: _) _ _)
                 refine alloc_rowIn rfl 163 rfl (ns z5) (by kernel_rfl) ?_)
    refine ⟨trivial, (parts_in _ _ _ _ _).mono ?_⟩
    rintro e3 w3 ⟨rfl, hw⟩
    rw [hw]
    clear hw
    gi_wp2
    obtain ⟨V0, hV0⟩ : ∃ V0, V0 = (W.alloc (.cells (ns z5) 163)).alloc (.cells #[.slice q.a q.len q.cap] 22) := ⟨_, rfl⟩
    rw [← hV0]
    have rA : Row V0 W.heap.size 163 (ns z5) := by rw [hV0]; exact (Row.new _ _ _).alloc _
    have rB : Row V0 (W.heap.size + 1) 22 #[.slice q.a q.len q.cap] := by rw [hV0]; exact Row.new1 _ _ _ _
    have q6 : Row V0 g6 163 (ns (w26 (rN key))) := by rw [hV0]; exact (r6.alloc _).alloc _
    have q7 : Row V0 g7 163 (ns (w26 (sN key))) := by rw [hV0]; exact (r7.alloc _).alloc _
    have qo : Row V0 (w.heap.size + 1) 55 (bs z16) := by rw [hV0]; exact (roW.alloc _).alloc _
    have bV : Below w.heap.size w V0 := by rw [hV0]; exact (bW.alloc bW.size _).alloc (by have := bW.size; simp; omega) _
    have hsV : V0.heap.size = W.heap.size + 2 := by rw [hV0]; simp
    have l6 := r6.lt
    have l7 := r7.lt
    have HQV : Hid (q.Ok V0) := show q.Ok V0 by rw [hV0]; exact (HQW.out.alloc _).alloc _
    clear hV0 r6 r7 roW bW
    refine rangeFunc_tells (F := Fence.wide) (n := 4) rfl (by decide) (gf := 124) (lb := #[.pointer (some ⟨W.heap.size + 1, 0, none⟩)]) rfl trivial (enters_of Tryz.func124 (by kernel_rfl) rfl) (encs := encW) (fun _ => rfl) W.heap.size (by omega) (partsTo q.b (np q.len))
      (parts_tells (4 - 1) (by decide) (W.heap.size + 1) W.heap.size q hl V0 rB HQV.out (by omega) (fun h => by have := HQW.out.lt h; omega))
      (fun pre V => (∃ A, Sm A ∧ V5 A % PP = accW (rN key) pre ∧ Row V W.heap.size 163 (ns A)) ∧ Row V g6 163 (ns (w26 (rN key))) ∧ Row V g7 163 (ns (w26 (sN key))) ∧ Row V (w.heap.size + 1) 55 (bs z16) ∧ Below w.heap.size w V)
      (fun s A B h hb => ⟨by
        obtain ⟨⟨Y, h1, h2, h3⟩, _⟩ := h
        exact ⟨Y, h1, h2, h3.below hb (by omega)⟩, h.2.1.below hb (by omega), h.2.2.1.below hb (by omega), h.2.2.2.1.below hb (by omega), h.2.2.2.2.trans (hb.mono (by omega))⟩)
      ⟨⟨z5, ⟨rfl, fun i => by rw [gn_z5]; decide⟩, by simp only [V5, gn_z5]; rfl, rA⟩, q6, q7, qo, bV⟩
      (fun x bk => { tmps := #[.agg (bs key), .slice q.a q.len q.cap, .pointer (some ⟨w.heap.size, 0, none⟩), undef, .pointer (some ⟨w.heap.size + 1, 0, none⟩), .int .i64 0, .pointer (some ⟨g6, 0, none⟩), .pointer (some ⟨g7, 0, none⟩), .pointer (some ⟨W.heap.size, 0, none⟩), .pointer (some ⟨bk, 0, none⟩), .slice q.a q.len q.cap, .int .i64 (q.len : Int), .bool false, undef, .agg (bs key), .agg (ns (w26 (rN key))), .slice (some ⟨w.heap.size, 16, none⟩) 16 16, .agg (ns (w26 (sN key))), .slice q.a q.len q.cap, .func (.func 124) #[] #[.pointer (some ⟨W.heap.size + 1, 0, none⟩)], .agg (ns x.1), undef, undef, undef, undef, undef, undef, undef, undef, undef, undef, undef], defers := [] })
      (fun x bk V => Row V bk 163 (ns x.1)) (fun x bk V V' h e => e.trans h) ?assign ?body ?done2
    case assign =>
      intro l x V K hK
      unfold encW
      have hx5 : (ns x.1).size = 5 := by rw [ns_size, x.2.len]
      go_simp
      gi_wp2_with (first
        | (with_reducible (show wpListIn _ _ _ _ _ (⟨_, Op.alloc 163, _, _, _, _⟩ :: _) _ _)
           refine alloc_rowIn rfl 163 rfl (ns z5) (by kernel_rfl) ?_)
        | (with_reducible (show wpListIn _ _ _ _ _ (⟨_, Op.store 163 _ _, _, _, _, _⟩ :: _) _ _)
           refine store_newIn (w := V) (by rfl) 163 _ _ (by rfl) V.heap.size (ns x.1) (by rfl) (by rfl) 163 (ns z5) (by rfl) 5 (by kernel_rfl) (by rfl) hx5 (ns_one _) ?_))
      exact hK _ ((Below.refl _ V).alloc (Nat.le_refl _) _) (by simp) (Row.new _ _ _)
    case body =>
      rintro l pre x bk V ⟨⟨A, hA, hacc, rowA⟩, row6, row7, rowo, hbel⟩ hx hbk hlt
      gi_wp2_with fail
      refine wpIn_region_any (by kernel_rfl) ?_
      refine anyIn_inv (Inv := fun l a U => ∃ x21 x22 x23 x24 x25, a = tm7 key q w.heap.size g6 g7 W.heap.size bk x.1 x21 x22 x23 x24 x25 ∧ I7 A x.1 (w26 (rN key)) (rN key) W.heap.size V x21 x22 x23 x24 x25 l U) dep7 6 (by kernel_rfl) ?step7 ?done7 _ _ _ _ rfl (by decide) ⟨undef, undef, undef, undef, undef, rfl, ⟨fun h => absurd h (On.none _ _), fun h => absurd h (On.none _ _), fun h => absurd h (On.none _ _), fun h => absurd h (On.none _ _), fun h => absurd h (On.none _ _), fun _ => (Below.refl _ _).drew, fun h => absurd h (On.none _ _), fun h => absurd h (On.none _ _)⟩⟩
      case step7 =>
        rintro l a U i hlz ⟨x21, x22, x23, x24, x25, rfl, h⟩ hi hno hdep
        have n5 : ∀ j, j < 5 → ¬ On l j → ¬ On l 5 := fun j hj hn e => hn (h.f7 e j hj)
        match i, hi, hno, hdep with
        | 0, _, hno, _ =>
          have m5 := n5 0 (by omega) hno
          have hb := h.f5 m5
          refine OI_value rfl rfl (about_none (by intro c h; cases h)) (by intro c h; cases h) (.agg (ns A)) U (run_load_row 163 _ rfl W.heap.size rfl _ _ 5 75 Tryz.underlying163 (by kernel_rfl) (by rw [ns_size, hA.len]) U (rowA.below hb rowA.lt)) ?_
          exact ⟨_, x22, x23, x24, x25, rfl, ⟨fun _ => rfl, fun e => h.f1 (e.of_set (by decide)), fun e => h.f2 (e.of_set (by decide)), fun e => h.f3 (e.of_set (by decide)), fun e => h.f4 (e.of_set (by decide)), fun _ => hb, fun e => absurd e (not_set m5 (by decide)), fun e => absurd e (not_set m5 (by decide))⟩⟩
        | 1, _, hno, _ =>
          have m5 := n5 1 (by omega) hno
          have hb := h.f5 m5
          refine OI_value rfl rfl (about_none (by intro c h; cases h)) (by intro c h; cases h) (.agg (ns x.1)) U (run_load_row 163 _ rfl bk rfl _ _ 5 75 Tryz.underlying163 (by kernel_rfl) (by rw [ns_size, x.2.len]) U (hx.below hb hx.lt)) ?_
          exact ⟨x21, _, x23, x24, x25, rfl, ⟨fun e => h.f0 (e.of_set (by decide)), fun _ => rfl, fun e => h.f2 (e.of_set (by decide)), fun e => h.f3 (e.of_set (by decide)), fun e => h.f4 (e.of_set (by decide)), fun _ => hb, fun e => absurd e (not_set m5 (by decide)), fun e => absurd e (not_set m5 (by decide))⟩⟩
        | 2, _, hno, hdep =>
          have m5 := n5 2 (by omega) hno
          have hb := h.f5 m5
          have e0 := h.f0 (hdep 0 (by simp [dep7]))
          have e1 := h.f1 (hdep 1 (by simp [dep7]))
          have f3 := h.f3
          have f4 := h.f4
          subst e0 e1
          refine OI_call rfl rfl (by intro c h; cases h) 107 #[.agg (ns A), .agg (ns x.1)] (fun _ _ => trivial) (by kernel_rfl) (by decide) ?_
          refine (CallsIn.inRound _ (callsIn_wide.2 (sum_any A x.1 hA x.2 U))).mono ?_
          rintro e w' ⟨ys, rfl, hsm, hcy, hb'⟩
          exact ⟨_, rfl, _, _, _, x24, x25, rfl, ⟨fun _ => rfl, fun _ => rfl, fun _ => ⟨ys, rfl, hsm, hcy⟩, fun e => f3 (e.of_set (by decide)), fun e => f4 (e.of_set (by decide)), fun _ => hb.trans (hb'.mono hb.size), fun e => absurd e (not_set m5 (by decide)), fun e => absurd e (not_set m5 (by decide))⟩⟩
        | 3, _, hno, _ =>
          have m5 := n5 3 (by omega) hno
          have hb := h.f5 m5
          refine OI_value rfl rfl (about_none (by intro c h; cases h)) (by intro c h; cases h) (.agg (ns (w26 (rN key)))) U (run_load_row 163 _ rfl g6 rfl _ _ 5 75 Tryz.underlying163 (by kernel_rfl) rfl U (row6.below hb row6.lt)) ?_
          exact ⟨x21, x22, x23, _, x25, rfl, ⟨fun e => h.f0 (e.of_set (by decide)), fun e => h.f1 (e.of_set (by decide)), fun e => h.f2 (e.of_set (by decide)), fun _ => rfl, fun e => h.f4 (e.of_set (by decide)), fun _ => hb, fun e => absurd e (not_set m5 (by decide)), fun e => absurd e (not_set m5 (by decide))⟩⟩
        | 4, _, hno, hdep =>
          have m5 := n5 4 (by omega) hno
          have hb := h.f5 m5
          obtain ⟨ys, e2, hsm, hcy⟩ := h.f2 (hdep 2 (by simp [dep7]))
          have e3 := h.f3 (hdep 3 (by simp [dep7]))
          have f0 := h.f0
          have f1 := h.f1
          subst e2 e3
          refine OI_call rfl rfl (by intro c h; cases h) 106 #[.agg (ns ys), .agg (ns (w26 (rN key)))] (fun _ _ => trivial) (by kernel_rfl) (by decide) ?_
          refine (CallsIn.inRound _ (callsIn_wide.2 (product_any ys (w26 (rN key)) hsm (w26_sm _) U))).mono ?_
          rintro e w' ⟨zs, rfl, hsz, hv, hb'⟩
          rw [V5_w26 _ (rN_lt key)] at hv
          exact ⟨_, rfl, x21, x22, _, _, _, rfl, ⟨fun e => f0 (e.of_set (by decide)), fun e => f1 (e.of_set (by decide)), fun _ => ⟨ys, rfl, hsm, hcy⟩, fun _ => rfl, fun _ => ⟨zs, rfl, hsz, mod_step _ _ _ _ _ hv hcy.mod⟩, fun _ => hb.trans (hb'.mono hb.size), fun e => absurd e (not_set m5 (by decide)), fun e => absurd e (not_set m5 (by decide))⟩⟩
        | 5, _, hno, hdep =>
          have hb := h.f5 hno
          obtain ⟨zs, e4, hsz, hv⟩ := h.f4 (hdep 4 (by simp [dep7]))
          have f0 := h.f0
          have f1 := h.f1
          have f2 := h.f2
          have f3 := h.f3
          subst e4
          refine OI_skip rfl rfl (about_none (by intro c h; cases h)) (by intro c h; cases h) (U.setRow W.heap.size (ns zs)) (run_store_row 163 _ _ rfl W.heap.size (ns zs) rfl rfl _ _ (rowA.below hb rowA.lt) 5 (by kernel_rfl) (by rw [ns_size, hA.len]) (by rw [ns_size, hsz.len]) (ns_one _)) ?_
          refine ⟨x21, x22, x23, x24, _, rfl, ⟨fun e => f0 (e.of_set (by decide)), fun e => f1 (e.of_set (by decide)), fun e => f2 (e.of_set (by decide)), fun e => f3 (e.of_set (by decide)), fun _ => ⟨zs, rfl, hsz, hv⟩, fun hn => ?_, fun _ => ⟨zs, U, hb, rfl, hsz, hv⟩, fun _ i hi => (hdep i ?_).set⟩⟩
          · exact absurd (On.self (by rw [hlz]; omega)) hn
          · match i, hi with
            | 0, _ => simp [dep7]
            | 1, _ => simp [dep7]
            | 2, _ => simp [dep7]
            | 3, _ => simp [dep7]
            | 4, _ => simp [dep7]
      case done7 =>
        rintro l a U ⟨x21, x22, x23, x24, x25, rfl, h⟩ hon
        obtain ⟨zs, V1, hb, rfl, hsz, hv⟩ := h.f6 (hon 5 (by omega))
        refine ⟨rfl, (Keep1.of_below hb).trans (Keep1.setRow _ _ _), ⟨zs, hsz, ?_, (rowA.below hb rowA.lt).put _⟩, (row6.below hb row6.lt).putOther (by omega) _, (row7.below hb row7.lt).putOther (by omega) _, (rowo.below hb rowo.lt).putOther (by omega) _, bSetRow (hbel.trans (hb.mono hbel.size)) (by omega) _⟩
        rw [accW_snoc, hv]
        exact acc_step _ _ _ _ hacc
    case done2 =>
      rintro D V hD ⟨⟨A, hA, hacc, rowA⟩, row6, row7, rowo, hbel⟩ hDd
      have HT : Hid (∀ v, v % 340282366920938463463374607431768211456 = accW (rN key) (partsTo q.b (np q.len)) % 340282366920938463463374607431768211456 → by16 (v + sN key) = tagL key q.b) := show ∀ v, _ → _ from fun v hv => by
        unfold tagL tagN
        rw [show q.b.length = q.len from HQ.out.hb]
        exact by16_mod (by rw [Nat.mod_mod, Nat.add_mod, hv, ← Nat.add_mod])
      have HA := veil hA
      have HACC := veil hacc
      clear row6 hA hacc
      gi_wp2_with fail
      refine wpIn_region_any (by kernel_rfl) ?_
      refine anyIn_inv (Inv := fun l a U => ∃ x26 x27 x28 x29 x30 x31, a = tm8 key q w.heap.size g6 g7 W.heap.size D x26 x27 x28 x29 x30 x31 ∧ I8 A (w26 (sN key)) (sN key) (tagL key q.b) w.heap.size V x26 x27 x28 x29 x30 x31 l U) dep8 8 (by kernel_rfl) ?step8 ?done8 _ _ _ _ rfl (by decide) ⟨undef, undef, undef, undef, undef, undef, rfl, ⟨fun h => absurd h (On.none _ _), fun h => absurd h (On.none _ _), fun h => absurd h (On.none _ _), fun h => absurd h (On.none _ _), fun h => absurd h (On.none _ _), fun h => absurd h (On.none _ _), fun _ => (Below.refl _ _).drew, fun h => absurd h (On.none _ _), fun h => absurd h (On.none _ _)⟩⟩
      case step8 =>
        rintro l a U i hlz ⟨x26, x27, x28, x29, x30, x31, rfl, h⟩ hi hno hdep
        have n6 : ∀ j, j < 6 → ¬ On l j → ¬ On l 6 := fun j hj hn e => hn (h.f8 e j hj)
        have f0 := h.f0
        have f1 := h.f1
        have f2 := h.f2
        have f3 := h.f3
        have f4 := h.f4
        have f5 := h.f5
        have f6 := h.f6
        have f7 := h.f7
        have f8 := h.f8
        clear h
        match i, hi, hno, hdep with
        | 0, _, hno, _ =>
          have m6 := n6 0 (by omega) hno
          have hb := f6 m6
          refine OI_value rfl rfl (about_none (by intro c h; cases h)) (by intro c h; cases h) (.agg (ns A)) U (run_load_row 163 _ rfl W.heap.size rfl _ _ 5 75 Tryz.underlying163 (by kernel_rfl) (by rw [ns_size, HA.out.len]) U (rowA.below hb rowA.lt)) ?_
          exact ⟨_, x27, x28, x29, x30, x31, rfl, ⟨fun _ => rfl, fun e => f1 (e.of_set (by decide)), fun e => f2 (e.of_set (by decide)), fun e => f3 (e.of_set (by decide)), fun e => f4 (e.of_set (by decide)), fun e => f5 (e.of_set (by decide)), fun _ => hb, fun e => absurd e (not_set6 m6 (by decide)), fun e => absurd e (not_set6 m6 (by decide))⟩⟩
        | 1, _, hno, hdep =>
          have m6 := n6 1 (by omega) hno
          have hb := f6 m6
          have e0 := f0 (hdep 0 (by simp [dep8]))
          subst e0
          refine OI_call rfl rfl (by intro c h; cases h) 110 #[.agg (ns A)] (fun _ _ => trivial) (by kernel_rfl) (by decide) ?_
          refine (callsIn_wide.2 (least_any A HA.out U)).mono ?_
          rintro e w' ⟨a1, rfl, s1, v1, hb'⟩
          exact ⟨_, rfl, _, _, x28, x29, x30, x31, rfl, ⟨fun _ => rfl, fun _ => ⟨a1, rfl, s1, v1⟩, fun e => f2 (e.of_set (by decide)), fun e => f3 (e.of_set (by decide)), fun e => f4 (e.of_set (by decide)), fun e => f5 (e.of_set (by decide)), fun _ => hb.trans (hb'.mono hb.size), fun e => absurd e (not_set6 m6 (by decide)), fun e => absurd e (not_set6 m6 (by decide))⟩⟩
        | 2, _, hno, hdep =>
          have m6 := n6 2 (by omega) hno
          have hb := f6 m6
          obtain ⟨a1, e1, s1, v1⟩ := f1 (hdep 1 (by simp [dep8]))
          subst e1
          refine OI_call rfl rfl (by intro c h; cases h) 109 #[.agg (ns a1)] (fun _ _ => trivial) (by kernel_rfl) (by decide) ?_
          refine (callsIn_wide.2 (below128_any a1 s1 U)).mono ?_
          rintro e w' ⟨a2, rfl, s2, v2, hb'⟩
          exact ⟨_, rfl, x26, _, _, x29, x30, x31, rfl, ⟨fun e => f0 (e.of_set (by decide)), fun _ => ⟨a1, rfl, s1, v1⟩, fun _ => ⟨a2, rfl, s2, by rw [v2, v1]⟩, fun e => f3 (e.of_set (by decide)), fun e => f4 (e.of_set (by decide)), fun e => f5 (e.of_set (by decide)), fun _ => hb.trans (hb'.mono hb.size), fun e => absurd e (not_set6 m6 (by decide)), fun e => absurd e (not_set6 m6 (by decide))⟩⟩
        | 3, _, hno, _ =>
          have m6 := n6 3 (by omega) hno
          have hb := f6 m6
          refine OI_value rfl rfl (about_none (by intro c h; cases h)) (by intro c h; cases h) (.agg (ns (w26 (sN key)))) U (run_load_row 163 _ rfl g7 rfl _ _ 5 75 Tryz.underlying163 (by kernel_rfl) rfl U (row7.below hb row7.lt)) ?_
          exact ⟨x26, x27, x28, _, x30, x31, rfl, ⟨fun e => f0 (e.of_set (by decide)), fun e => f1 (e.of_set (by decide)), fun e => f2 (e.of_set (by decide)), fun _ => rfl, fun e => f4 (e.of_set (by decide)), fun e => f5 (e.of_set (by decide)), fun _ => hb, fun e => absurd e (not_set6 m6 (by decide)), fun e => absurd e (not_set6 m6 (by decide))⟩⟩
        | 4, _, hno, hdep =>
          have m6 := n6 4 (by omega) hno
          have hb := f6 m6
          obtain ⟨a2, e2, s2, v2⟩ := f2 (hdep 2 (by simp [dep8]))
          have e3 := f3 (hdep 3 (by simp [dep8]))
          subst e2 e3
          refine OI_call rfl rfl (by intro c h; cases h) 107 #[.agg (ns a2), .agg (ns (w26 (sN key)))] (fun _ _ => trivial) (by kernel_rfl) (by decide) ?_
          refine (callsIn_wide.2 (sum_any a2 (w26 (sN key)) s2 (w26_sm _) U)).mono ?_
          rintro e w' ⟨a3, rfl, s3, v3, hb'⟩
          rw [V5_w26 _ (sN_lt key HK.out)] at v3
          have e3 : V5 a3 = V5 a2 + sN key := v3.eq (by
            have := sN_lt128 key HK.out
            omega)
          exact ⟨_, rfl, x26, x27, _, _, _, x31, rfl, ⟨fun e => f0 (e.of_set (by decide)), fun e => f1 (e.of_set (by decide)), fun _ => ⟨a2, rfl, s2, v2⟩, fun _ => rfl, fun _ => ⟨a3, rfl, s3, by rw [e3, v2]⟩, fun e => f5 (e.of_set (by decide)), fun _ => hb.trans (hb'.mono hb.size), fun e => absurd e (not_set6 m6 (by decide)), fun e => absurd e (not_set6 m6 (by decide))⟩⟩
        | 5, _, hno, hdep =>
          have m6 := n6 5 (by omega) hno
          have hb := f6 m6
          obtain ⟨a3, e4, s3, v3⟩ := f4 (hdep 4 (by simp [dep8]))
          subst e4
          refine OI_call rfl rfl (by intro c h; cases h) 108 #[.agg (ns a3)] (fun _ _ => trivial) (by kernel_rfl) (by decide) ?_
          refine (callsIn_wide.2 (bytesOf_any a3 s3 U)).mono ?_
          rintro e w' ⟨rfl, hb'⟩
          have e5 : by16 (V5 a3) = tagL key q.b := by
            rw [v3]
            exact HT.out _ (by rw [HACC.out, Nat.mod_mod])
          rw [e5]
          exact ⟨_, rfl, x26, x27, x28, x29, _, _, rfl, ⟨fun e => f0 (e.of_set (by decide)), fun e => f1 (e.of_set (by decide)), fun e => f2 (e.of_set (by decide)), fun e => f3 (e.of_set (by decide)), fun _ => ⟨a3, rfl, s3, v3⟩, fun _ => rfl, fun _ => hb.trans (hb'.mono hb.size), fun e => absurd e (not_set6 m6 (by decide)), fun e => absurd e (not_set6 m6 (by decide))⟩⟩
        | 6, _, hno, hdep =>
          have hb := f6 hno
          have e5 := f5 (hdep 5 (by simp [dep8]))
          subst e5
          refine OI_skip rfl rfl (about_none (by intro c h; cases h)) (by intro c h; cases h) (U.setRow (w.heap.size + 1) (bs (tagL key q.b))) (run_store_row 55 _ _ rfl (w.heap.size + 1) (bs (tagL key q.b)) rfl rfl _ _ (rowo.below hb rowo.lt) 16 (by kernel_rfl) rfl (by rw [bs_size]; exact by16_length _) (bs_one _)) ?_
          refine ⟨x26, x27, x28, x29, x30, _, rfl, ⟨fun e => f0 (e.of_set (by decide)), fun e => f1 (e.of_set (by decide)), fun e => f2 (e.of_set (by decide)), fun e => f3 (e.of_set (by decide)), fun e => f4 (e.of_set (by decide)), fun _ => rfl, fun hn => absurd (On.self (by rw [hlz]; omega)) hn, fun _ => ⟨U, hb, rfl⟩, fun _ i hi => (hdep i ?_).set⟩⟩
          match i, hi with
          | 0, _ => simp [dep8]
          | 1, _ => simp [dep8]
          | 2, _ => simp [dep8]
          | 3, _ => simp [dep8]
          | 4, _ => simp [dep8]
          | 5, _ => simp [dep8]
        | 7, _, hno, hdep =>
          have o6 := hdep 6 (by simp [dep8])
          refine OI_value rfl rfl (about_none (by intro c h; cases h)) (by intro c h; cases h) (.int .i64 0) U (by kernel_rfl) ?_
          exact ⟨x26, x27, x28, x29, x30, x31, rfl, ⟨fun e => f0 (e.of_set (by decide)), fun e => f1 (e.of_set (by decide)), fun e => f2 (e.of_set (by decide)), fun e => f3 (e.of_set (by decide)), fun e => f4 (e.of_set (by decide)), fun e => f5 (e.of_set (by decide)), fun hn => absurd o6.set hn, fun _ => f7 o6, fun _ i hi => (f8 o6 i hi).set⟩⟩
      case done8 =>
        rintro l a U ⟨x26, x27, x28, x29, x30, x31, rfl, h⟩ hon
        obtain ⟨U1, hb, rfl⟩ := h.f7 (hon 6 (by omega))
        clear h hon
        have k0 := rowo.below hb rowo.lt
        have kD : U1.heap[D]? = some (.deferred (some [])) := (hb.block D (Array.getElem?_eq_some_iff.1 hDd).1).trans hDd
        have kb := hbel.trans (hb.mono hbel.size)
        have kD2 : (U1.setRow (w.heap.size + 1) (bs (tagL key q.b))).heap[D]? = some (.deferred (some [])) := (setRow_other _ _ _ _ (by omega)).trans kD
        have k3 := k0.put (bs (tagL key q.b))
        have kb3 := bSetRow kb (show w.heap.size ≤ w.heap.size + 1 by omega) (bs (tagL key q.b))
        generalize U1.setRow (w.heap.size + 1) (bs (tagL key q.b)) = W4 at *
        unfold tm8
        gi_wp2
        have hlt4 : D < W4.heap.size := (Array.getElem?_eq_some_iff.1 kD2).1
        have kp : Below D W4 (W4.putObj D (.deferred none)) := below_putObj _ (Nat.le_refl _) (by omega)
        refine ⟨by simp, .inl ⟨_, _, rfl, run_takeDeferred kD2, ?_⟩⟩
        exact ⟨_, result_row_tmp rfl _ _ (w.heap.size + 1) _ _ (k3.below kp (by omega)) 16 5 (.int .i64 0) rfl rfl Tryz.underlying55 (by kernel_rfl) (by rw [bs_size]; exact by16_length _), rfl, kb3.trans (kp.mono (by omega))⟩
end Go.Proofs.YtffokggejbmadaaGreatDoor

/-! What is tagged, and sealed bytes, on lists: no program in sight. -/
namespace Go.Proofs.YtffokggejbmadaaGreatDoor
open Go

/-- How many bytes there are up to a multiple of 16. -/
def pad16 (n : Nat) : Nat := (16 - n % 16) % 16
theorem pad16_lt (n : Nat) : pad16 n < 16 := Nat.mod_lt _ (by decide)
theorem pad16_sum (n : Nat) : (n + pad16 n) % 16 = 0 := by unfold pad16; omega
theorem pad16_add (n m : Nat) (h : n % 16 = 0) : pad16 (n + m) = pad16 m := by unfold pad16; rw [Nat.add_mod, h, Nat.zero_add, Nat.mod_mod]
def fillL (l : List By) : List By := l ++ List.replicate (pad16 l.length) 0
theorem fillL_length (l : List By) : (fillL l).length = l.length + pad16 l.length := by simp [fillL]
/-- A number as eight bytes. -/
def eightL (n : Nat) : List By := (List.range 8).map (byteAt n)
def eightTo (n k : Nat) : List By := (List.range k).map (byteAt n)
theorem eightTo_succ (n k : Nat) : eightTo n (k + 1) = eightTo n k ++ [byteAt n k] := by
  unfold eightTo
  rw [List.range_succ, List.map_append, List.map_singleton]
theorem eightTo_eight (n : Nat) : eightTo n 8 = eightL n := rfl
theorem eightTo_zero (n : Nat) : eightTo n 0 = [] := rfl
theorem eightTo_length (n k : Nat) : (eightTo n k).length = k := by simp [eightTo]
theorem eightL_length (n : Nat) : (eightL n).length = 8 := by simp [eightL]
/-- What is tagged. -/
def taggedL (x y : List By) : List By := fillL x ++ y ++ List.replicate (pad16 y.length) 0 ++ eightL x.length ++ eightL y.length
theorem taggedL_length (x y : List By) : (taggedL x y).length = x.length + pad16 x.length + y.length + pad16 y.length + 16 := by
  simp only [taggedL, List.length_append, fillL_length, List.length_replicate, eightL_length]
theorem taggedL_fill (x y : List By) : fillL (fillL x ++ y) = fillL x ++ y ++ List.replicate (pad16 y.length) 0 := by
  rw [fillL, List.length_append, pad16_add]
  rw [fillL_length]
  exact pad16_sum _
/-- The tag; sealed bytes. -/
def markL (key nonce hidden beside : List By) : List By := tagL ((blockL key 0 nonce).take 32) (taggedL beside hidden)
theorem markL_length (key nonce hidden beside : List By) : (markL key nonce hidden beside).length = 16 := by16_length _
def sealL (key nonce plain beside : List By) : List By := xorL key 1 nonce plain ++ markL key nonce (xorL key 1 nonce plain) beside
theorem sealL_length (key nonce plain beside : List By) : (sealL key nonce plain beside).length = plain.length + 16 := by
  rw [sealL, List.length_append, xorL_length, markL_length]
theorem once_length (key nonce : List By) (count : Wd) : ((blockL key count nonce).take 32).length = 32 := by rw [List.length_take, blockL_length]; rfl
theorem u_one : u (1 : Wd) = 1 := rfl
theorem u_zero : u (0 : Wd) = 0 := rfl
/-- What is opened. -/
def openL (key nonce hidden : List By) : List By := xorL key 1 nonce hidden
theorem open_seal (key nonce plain beside : List By) : openL key nonce ((sealL key nonce plain beside).take plain.length) = plain := by
  rw [sealL, List.take_append_of_le_length (by rw [xorL_length]; exact Nat.le_refl _), List.take_of_length_le (by rw [xorL_length]; exact Nat.le_refl _), openL, xorL_twice]
theorem hidden_seal (key nonce plain beside : List By) : (sealL key nonce plain beside).take plain.length = xorL key 1 nonce plain := by
  rw [sealL, List.take_append_of_le_length (by rw [xorL_length]; exact Nat.le_refl _), List.take_of_length_le (by rw [xorL_length]; exact Nat.le_refl _)]
theorem tag_seal (key nonce plain beside : List By) : (sealL key nonce plain beside).drop plain.length = markL key nonce (xorL key 1 nonce plain) beside := by
  rw [sealL, List.drop_append_of_le_length (by rw [xorL_length]; exact Nat.le_refl _), List.drop_of_length_le (by rw [xorL_length]; exact Nat.le_refl _), List.nil_append]
end Go.Proofs.YtffokggejbmadaaGreatDoor

/-! A region that draws its order and has one operation, c, that parts it in two: what is read ahead of c may be taken first where S holds until c has come up. -/
namespace Go.Proofs.YtffokggejbmadaaGreatDoor
open Go Go.RowKit

section
variable {P : Program} {ops : Array Oper} {Q : Exit → Act → World → Prop} {md : Region.Mode} {c : Nat} {S : Bool → World → Prop}

/-- Whatever order is picked; behind each operation S holds, of whether c has come up. -/
def wpTwo (P : Program) (md : Region.Mode) (ops : Array Oper) (Q : Exit → Act → World → Prop) (c : Nat) (S : Bool → World → Prop) : Nat → Array Bool → Act → World → Prop
  | 0, l, a, w => Region.ready md ops l = [] ∧ Q .normal a w
  | k + 1, l, a, w => (Region.ready md ops l = [] → Q .normal a w) ∧
      ∀ i ∈ Region.ready md ops l, wpOp P ops Q i (fun a' w' => S ((l.setIfInBounds i true).getD c true) w' ∧ wpTwo P md ops Q c S k (l.setIfInBounds i true) a' w') a w

theorem wpTwo_any : ∀ (k : Nat) (l : Array Bool) (a : Act) (w : World), wpTwo P md ops Q c S k l a w → wpAny P md ops Q k l a w
  | 0, _, _, _, h => h
  | k + 1, _, _, _, h => ⟨h.1, fun i hi => wpOp_mono (fun a' w' h' => wpTwo_any k _ a' w' h'.2) (h.2 i hi)⟩

theorem two_begin {id : Nat} {a : Act} {w : World} (hm : P.follows .mixedOrders = true) (h : wpTwo P .any ops Q c S ops.size (Array.replicate ops.size false) a w.drew) : (Code.region id ops true).wp P Q a w :=
  wp_region_any hm (wpTwo_any _ _ _ _ h)

/-- What may be taken first: while i has not come up, Inv holds, and under Inv S tells what i needs. -/
theorem two_first {i : Nat} {o : Oper} {v : Value} {S' : World → Prop} {Inv : Array Bool → Prop} (hi : ops[i]? = some o) (hsel : ∀ (j : Nat) (o : Oper) cs b, ops[j]? = some o → o.op ≠ .select cs b)
    (hQ : ∀ c a w, Q (.panic c) (a.put o.dst v) w → Q (.panic c) a w) (hic : i ≠ c)
    (hInv : ∀ l j, Inv l → l.getD i true = false → i < l.size → j ∈ Region.ready md ops l → j ≠ i → Inv (l.setIfInBounds j true)) (hS' : ∀ l w, Inv l → S (l.getD c true) w → S' w) :
    ∀ (k : Nat) (l : Array Bool) (a : Act) (w : World),
      (∀ j oj, ops[j]? = some oj → j ≠ i → l.getD j true = false → (∀ e ∈ oj.after, Region.binds md e = true → e.on ≠ i) → o.apart ops oj = true) →
      Inv l → i < l.size → i ∈ Region.ready md ops l → YieldsIf P ops S' o v a → S (l.getD c true) w →
      wpTwo P md ops Q c S k (l.setIfInBounds i true) (a.put o.dst v) w → wpTwo P md ops Q c S (k + 1) l a w := by
  intro k
  induction k with
  | zero =>
    intro l a w _ hl hz hr hy hS H
    refine ⟨fun h => absurd hr (by rw [h]; simp), fun j hj => ?_⟩
    rcases Nat.decEq j i with hne | rfl
    · have := ready_mono hj hne
      rw [H.1] at this
      cases this
    · exact hy.wpOp hi (hS' l w hl hS) ⟨by rw [getD_set_ne true hic]; exact hS, H⟩
  | succ k ih =>
    intro l a w hfree hl hz hr hy hS H
    refine ⟨fun h => absurd hr (by rw [h]; simp), fun j hj => ?_⟩
    rcases Nat.decEq j i with hne | rfl
    · obtain ⟨hun, oj, hoj, hall⟩ := mem_ready.1 hj
      have hi0 := (mem_ready.1 hr).1
      have hno : ∀ e ∈ oj.after, Region.binds md e = true → e.on ≠ i := by
        intro e he hb hei
        have h1 := hall e he hb
        rw [hei] at h1
        simp [hz] at h1 hi0
        rw [hi0] at h1
        cases h1
      have h2 := wpOp_putIf hoj (hfree j oj hoj hne hun hno) (fun cs b => hsel i o cs b hi) (fun cs b => hsel j oj cs b hoj) hQ hy (H.2 j (ready_mono hj hne))
      refine wpOp_mono (fun a' w' h3 => ?_) h2
      obtain ⟨hy', hS1, h4⟩ := h3
      rw [Array.setIfInBounds_comm _ _ (Ne.symm hne), getD_set_ne true hic] at hS1
      rw [Array.setIfInBounds_comm _ _ (Ne.symm hne)] at h4
      refine ⟨hS1, ih (l.setIfInBounds j true) a' w' ?_ (hInv l j hl hi0 hz hj hne) (by simpa using hz) (ready_mono hr (Ne.symm hne)) hy' hS1 h4⟩
      intro m om hm hmi hmu hmn
      refine hfree m om hm hmi ?_ hmn
      rcases Nat.decEq j m with hjm | rfl
      · rw [getD_set_ne true hjm] at hmu; exact hmu
      · exact hun
    · exact hy.wpOp hi (hS' l w hl hS) ⟨by rw [getD_set_ne true hic]; exact hS, H⟩

/-- Taken first, at any time: what S tells behind c too. -/
theorem two_late {i : Nat} {o : Oper} {v : Value} {k : Nat} {l : Array Bool} {a : Act} {w : World} (b : Bool) (hb : l.getD c true = b) (hi : ops[i]? = some o) (hSS : ∀ w, S false w → S true w) (hic : i ≠ c)
    (hs : Region.noSelect ops = true) (hf : Region.free md ops l i = true) (hr : (Region.ready md ops l).contains i = true) (hz : i < l.size)
    (hQ : ∀ c a w, Q (.panic c) (a.put o.dst v) w → Q (.panic c) a w) (hw : Region.wanted o (yielded ops a.tmps) = true) (hy : ∀ W, S true W → (execOp a.eval o).run P W = .ok (.value v) W) (hS : S b w)
    (h : wpTwo P md ops Q c S k (l.setIfInBounds i true) (a.put o.dst v) w) : wpTwo P md ops Q c S (k + 1) l a w :=
  two_first (Inv := fun _ => True) (S' := S true) hi (Region.noSelect_spec hs) hQ hic (fun _ _ _ _ _ _ _ => trivial) (fun l w _ h => by cases hb : l.getD c true <;> rw [hb] at h; exact hSS _ h; exact h) k l a w
    (Region.free_spec hi hf) trivial hz (by simpa using hr) (.inl ⟨hw, hy⟩) (by rw [hb]; exact hS) h

/-- Taken first, ahead of c, which waits for it. -/
theorem two_early {i : Nat} {o oc : Oper} {v : Value} {k : Nat} {l : Array Bool} {a : Act} {w : World} (hi : ops[i]? = some o) (hc : ops[c]? = some oc) (hwait : (oc.after.any fun e => Region.binds md e && e.on == i) = true) (hic : i ≠ c)
    (hs : Region.noSelect ops = true) (hf : Region.free md ops l i = true) (hr : (Region.ready md ops l).contains i = true) (hz : i < l.size) (hcl : l.getD c true = false)
    (hQ : ∀ c a w, Q (.panic c) (a.put o.dst v) w → Q (.panic c) a w) (hw : Region.wanted o (yielded ops a.tmps) = true) (hy : ∀ W, S false W → (execOp a.eval o).run P W = .ok (.value v) W) (hS : S false w)
    (h : wpTwo P md ops Q c S k (l.setIfInBounds i true) (a.put o.dst v) w) : wpTwo P md ops Q c S (k + 1) l a w :=
  two_first (Inv := fun l => l.getD c true = false) (S' := S false) hi (Region.noSelect_spec hs) hQ hic
    (fun l j hl hi0 hz hj _ => by
      rcases Nat.decEq j c with hjc | rfl
      · rw [getD_set_ne true hjc]; exact hl
      · exfalso
        obtain ⟨_, oj, hoj, hall⟩ := mem_ready.1 hj
        obtain rfl := Option.some.inj (hc.symm.trans hoj)
        obtain ⟨e, he, hb⟩ := Array.any_eq_true'.1 hwait
        simp only [Bool.and_eq_true, beq_iff_eq] at hb
        have h1 := hall e he hb.1
        rw [hb.2] at h1
        simp [hz] at h1 hi0
        rw [hi0] at h1
        cases h1)
    (fun l w hl h => by rw [hl] at h; exact h) k l a w
    (Region.free_spec hi hf) hcl hz (by simpa using hr) (.inl ⟨hw, hy⟩) (by rw [hcl]; exact hS) h

/-- What comes up alone. -/
theorem two_alone {i : Nat} {o : Oper} {k : Nat} {l : Array Bool} {a : Act} {w : World} (b : Bool) (hb : (l.setIfInBounds i true).getD c true = b) (hi : ops[i]? = some o) (hr : Region.ready md ops l = [i]) (hw : Region.wanted o (yielded ops a.tmps) = true)
    (h : o.wp P a w (fun a' w' => S b w' ∧ wpTwo P md ops Q c S k (l.setIfInBounds i true) a' w') Q) : wpTwo P md ops Q c S (k + 1) l a w := by
  subst hb
  refine ⟨fun h0 => by rw [hr] at h0; simp at h0, fun j hj => ?_⟩
  rw [hr] at hj
  obtain rfl : j = i := by simpa using hj
  unfold wpOp
  simp only [hi, hw, if_true]
  exact .inl h
theorem two_done {l : Array Bool} {a : Act} {w : World} (hr : Region.ready md ops l = []) (h : Q .normal a w) : ∀ k, wpTwo P md ops Q c S k l a w
  | 0 => ⟨hr, h⟩
  | _ + 1 => ⟨fun _ => h, by rw [hr]; simp⟩
end
end Go.Proofs.YtffokggejbmadaaGreatDoor

/-! Single operations, as a walk by hand asks them. -/
namespace Go.Proofs.YtffokggejbmadaaGreatDoor
open Go Go.RowKit

section
variable {P : Program} {a : Act} {o : Oper}
theorem run_addr (t e : TypeId) (n : Nat) (x ix : Operand) (g j : Nat) (ho : o.op = .indexAddr t x ix) (hx : a.eval x = .pointer (some ⟨g, 0, none⟩)) (hix : a.eval ix = .int .i64 (j : Int))
    (hu : P.underlying t = some (.array n e)) (hi : (P.info? e).map (·.size) = some 1) (hj : j < n) (W : World) : (execOp a.eval o).run P W = .ok (.value (.pointer (some ⟨g, j, none⟩))) W := by
  have hsz : (sizeOf e).run P W = .ok 1 W := by
    cases hq : P.info? e with
    | none => simp [hq] at hi
    | some i =>
      have : i.size = 1 := by simpa [hq] using hi
      simp [sizeOf, typeInfo, hq, this]
  unfold execOp
  simp [ho, hx, hix, Instr.indexAt, asIntOf, Instr.sureAddr, run_underlying hu, hj, hsz, Addr.add]
  omega
theorem run_cell (ty : TypeId) (x : Operand) (p : Addr) (v : Value) (d : TypeDesc) (ho : o.op = .load ty x) (hx : a.eval x = .pointer (some p)) (hu : P.underlying ty = some d) (hd : (match d with | .struct _ | .array _ _ => true | _ => false) = false)
    (W : World) (hv : W.cell? p = some v) : (execOp a.eval o).run P W = .ok (.value v) W := by
  have hag : (isAgg ty).run P W = .ok false W := by
    unfold isAgg
    rw [Sem.run_bind, run_underlying hu W]
    cases d <;> simp_all
  unfold execOp
  simp [ho, hx, Instr.loadAt, Instr.sureAddr, loadVar, hag, hv]
theorem run_move (x : Operand) (v : Value) (ho : o.op = .move x) (hx : a.eval x = v) (W : World) : (execOp a.eval o).run P W = .ok (.value v) W := by
  unfold execOp
  simp [ho, hx]
theorem run_extract (x : Operand) (j : Nat) (vs : Array Value) (v : Value) (ho : o.op = .extract x j) (hx : a.eval x = .tuple vs) (hv : vs[j]? = some v) (W : World) : (execOp a.eval o).run P W = .ok (.value v) W := by
  unfold execOp
  simp [ho, hx, Instr.extract, hv]
/-- An element of an array that is a value, itself an array. -/
theorem run_part (t e : TypeId) (n m : Nat) (e' : TypeId) (cs : Array Value) (k : Nat) (hu : P.underlying t = some (.array n e)) (he : P.underlying e = some (.array m e')) (hi : (P.info? e).map (·.size) = some m) (hk : k < n) (w : World) :
    (Instr.index t (.agg cs) (.int .i64 (k : Int))).run P w = .ok (.agg (cs.extract (k * m) (k * m + m))) w := by
  have hsz : (sizeOf e).run P w = .ok m w := by
    cases hq : P.info? e with
    | none => simp [hq] at hi
    | some i =>
      have : i.size = m := by simpa [hq] using hi
      simp [sizeOf, typeInfo, hq, this]
  have hag : (isAgg e).run P w = .ok true w := by
    unfold isAgg
    rw [Sem.run_bind, run_underlying he w]
    rfl
  simp [Instr.index, asIntOf, run_underlying hu, hk, hsz, part, hag]
theorem index_part {ops : Array Oper} {rest : List Oper} {w : World} {Q : Exit → Act → World → Prop} (hgd : o.guard = none) (t : TypeId) (x ix : Operand) (ho : o.op = .index t x ix) (e : TypeId) (n m : Nat) (e' : TypeId) (cs cs' : Array Value) (k : Nat) (hx : a.eval x = .agg cs) (hix : a.eval ix = .int .i64 (k : Int))
    (hu : P.underlying t = some (.array n e)) (he : P.underlying e = some (.array m e')) (hi : (P.info? e).map (·.size) = some m) (hk : k < n) (hcs : cs.extract (k * m) (k * m + m) = cs')
    (h : wpList P ops Q rest (a.put o.dst (.agg cs')) w) : wpList P ops Q (o :: rest) a w :=
  wpList_plain hgd fun _ hK => by
    unfold Oper.wp execOp
    simp only [ho, hx, hix, Sem.run_bind, run_part t e n m e' cs k hu he hi hk w, Result.andThen_ok, Sem.run_pure, hcs]
    exact hK _ _ h
theorem index_one {ops : Array Oper} {rest : List Oper} {w : World} {Q : Exit → Act → World → Prop} (hgd : o.guard = none) (t : TypeId) (x ix : Operand) (ho : o.op = .index t x ix) (e : TypeId) (n : Nat) (d : TypeDesc) (cs : Array Value) (v : Value) (k : Nat) (hx : a.eval x = .agg cs) (hix : a.eval ix = .int .i64 (k : Int))
    (hu : P.underlying t = some (.array n e)) (he : P.underlying e = some d) (hd : (match d with | .struct _ | .array _ _ => true | _ => false) = false) (hi : (P.info? e).map (·.size) = some 1) (hk : k < n) (hv : cs[k]? = some v)
    (h : wpList P ops Q rest (a.put o.dst v) w) : wpList P ops Q (o :: rest) a w :=
  wpList_plain hgd fun _ hK => by
    unfold Oper.wp execOp
    simp only [ho, hx, hix, Sem.run_bind, run_index t e n d cs k v hu he hd hi hk hv w, Result.andThen_ok, Sem.run_pure]
    exact hK _ _ h
theorem store_cell_wp {w : World} {K : Act → World → Prop} {Q : Exit → Act → World → Prop} (ty : TypeId) (x y : Operand) (p : Addr) (k : IntKind) (z : Int) (old : Value) (ho : o.op = .store ty x y) (hx : a.eval x = .pointer (some p)) (hy : a.eval y = .int k z) (hi : (P.info? ty).map (·.size) = some 1)
    (hc : w.cell? p = some old) (hf : w.frozen? p = false) (h : K (a.put o.dst undef) (w.setCell p (.int k z))) : o.wp P a w K Q := by
  have hsz : (sizeOf ty).run P w = .ok 1 w := by
    cases hq : P.info? ty with
    | none => simp [hq] at hi
    | some i =>
      have : i.size = 1 := by simpa [hq] using hi
      simp [sizeOf, typeInfo, hq, this]
  unfold Oper.wp execOp
  simp only [ho, hx, hy, Instr.storeAt, Instr.sureAddr, storeVar, Sem.run_bind, Sem.run_pure, Result.andThen_ok, hsz]
  simp [Value.cells, storeCells, Addr.add_zero', run_store P w p (.int k z) _ rfl, hc, hf]
  exact h
theorem call_wp {w : World} {K : Act → World → Prop} {Q : Exit → Act → World → Prop} (f : Nat) (args : Array Value) (he : (execOp a.eval o).run P w = .ok (.enter f args) w)
    (hc : Calls P f args w fun e w' => ∃ v, e = .returned v ∧ K (a.put o.dst v) w') : o.wp P a w K Q := by
  unfold Oper.wp
  rw [he]
  exact hc.mono (by rintro e w' ⟨v, rfl, h⟩; exact h)
/-- What comes up alone, and stores one cell. -/
theorem two_store {P : Program} {ops : Array Oper} {Q : Exit → Act → World → Prop} {md : Region.Mode} {c : Nat} {S : Bool → World → Prop} {i : Nat} {o : Oper} {n : Nat} {l : Array Bool} {a : Act} {w : World} (b : Bool) (hb : (l.setIfInBounds i true).getD c true = b) (hi : ops[i]? = some o) (hr : Region.ready md ops l = [i]) (hw : Region.wanted o (yielded ops a.tmps) = true)
    (ty : TypeId) (x y : Operand) (p : Addr) (k : IntKind) (z : Int) (old : Value) (ho : o.op = .store ty x y) (hx : a.eval x = .pointer (some p)) (hy : a.eval y = .int k z) (hin : (P.info? ty).map (·.size) = some 1)
    (hc : w.cell? p = some old) (hf : w.frozen? p = false) (hS : S b (w.setCell p (.int k z)))
    (h : wpTwo P md ops Q c S n (l.setIfInBounds i true) (a.put o.dst undef) (w.setCell p (.int k z))) : wpTwo P md ops Q c S (n + 1) l a w :=
  two_alone b hb hi hr hw (store_cell_wp ty x y p k z old ho hx hy hin hc hf ⟨hS, h⟩)
end
end Go.Proofs.YtffokggejbmadaaGreatDoor

/-! What the package's variables hold. -/
namespace Go.Proofs.YtffokggejbmadaaGreatDoor
open Go Go.RowKit

/-- The cells of numbers. -/
def is (xs : List Nat) : Array Value := (xs.map fun (x : Nat) => Value.int .i64 (x : Int)).toArray
theorem is_size (xs : List Nat) : (is xs).size = xs.length := by simp [is]
theorem is_one (xs : List Nat) : (is xs).all (·.oneCell') = true := by simp [is, Value.oneCell']
theorem is_get (xs : List Nat) (j : Nat) (h : j < xs.length) : (is xs)[j]? = some (.int .i64 (gn xs j : Int)) := by simp [is, gn, h]
/-- What the package's variables hold. -/
structure Glob (w : World) : Prop where
  beg : ∃ t fr, w.heap[0]? = some (.cells (ws BEG) t fr)
  qu : ∃ t fr, w.heap[1]? = some (.cells (is QN) t fr)
theorem Glob.lt {w : World} (h : Glob w) : 0 < w.heap.size ∧ 1 < w.heap.size := by
  obtain ⟨⟨t, fr, h1⟩, ⟨t', fr', h2⟩⟩ := h
  exact ⟨(Array.getElem?_eq_some_iff.1 h1).1, (Array.getElem?_eq_some_iff.1 h2).1⟩
theorem Glob.below {w w' : World} {n : Nat} (h : Glob w) (hb : Below n w w') (hn : w.heap.size ≤ n) : Glob w' := by
  have hl := h.lt
  obtain ⟨⟨t, fr, h1⟩, ⟨t', fr', h2⟩⟩ := h
  exact ⟨⟨t, fr, (hb.block _ (by omega)).trans h1⟩, ⟨t', fr', (hb.block _ (by omega)).trans h2⟩⟩

theorem qi_part (k : Nat) (hk : k < 8) : (is QN).extract (k * 4) (k * 4 + 4) = #[.int .i64 (qi k 0 : Nat), .int .i64 (qi k 1 : Nat), .int .i64 (qi k 2 : Nat), .int .i64 (qi k 3 : Nat)] := by
  match k, hk with
  | 0, _ => rfl
  | 1, _ => rfl
  | 2, _ => rfl
  | 3, _ => rfl
  | 4, _ => rfl
  | 5, _ => rfl
  | 6, _ => rfl
  | 7, _ => rfl
theorem qi_lt (k : Nat) (hk : k < 8) (j : Nat) (hj : j < 4) : qi k j < 16 := by
  have h : ∀ k : Fin 8, ∀ j : Fin 4, qi k.1 j.1 < 16 := by decide +kernel
  exact h ⟨k, hk⟩ ⟨j, hj⟩

end Go.Proofs.YtffokggejbmadaaGreatDoor
