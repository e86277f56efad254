/-
  What the document's Put answers.
-/
import Derived.Test.YtjccjlhnjihfjaaDoorGh9
namespace Go.Proofs.YtjccjlhnjihfjaaDoor
open Go.RowKit

/-- A row of bytes of the call's own, all of it taken. -/
def Owns (base : Nat) (w : World) (g len cap : Nat) (zs : List Int) : Prop :=
  zs.length = len ∧ w.ownsRow base 5 1 (.slice (some ⟨g, 0, none⟩) len cap) len (zs.map (Value.int .u8))


/-- As many bytes as a number needs. -/
def IsSize (n : Int) (K : Nat) : Prop := (n < 64 ∧ K = 1) ∨ (64 ≤ n ∧ n < 16384 ∧ K = 2) ∨ (16384 ≤ n ∧ n < 1073741824 ∧ K = 4) ∨ (1073741824 ≤ n ∧ K = 8)

theorem size_any (n : Int) (K : Nat) (w : World) (h : IsSize n K) :
    Calls Tryd.prog 75 #[.int .u64 n] w fun e w' => e = .returned (.int .i64 K) ∧ w' = w := by
  unfold IsSize at h
  rcases h with ⟨h1, rfl⟩ | ⟨h0, h1, rfl⟩ | ⟨h0, h1, rfl⟩ | ⟨h0, rfl⟩
  all_goals
    go_enter Tryd.func75, Tryd.ntmps75
    go_wp2
    go_ret
    exact ⟨rfl, rfl⟩

theorem shr8 (p : Int) (i : Nat) (h : i < 8) : Op.shift .shr .u64 p .i64 (8 * (i : Int)) = pure (.int .u64 (p / 2 ^ (8 * i))) := by
  rw [shift_shr_u64 (x := p) (yk := .i64) (y := 8 * (i : Int)) (by omega) (by omega), show (8 * (i : Int)).toNat = 8 * i by omega]
theorem wrap8 (i : Nat) (h : i < 8) : IntKind.i64.wrap (8 * (i : Int)) = 8 * (i : Int) := by rw [IntKind.wrap_i64]; omega

/-- The bytes from the top on, j of K. -/
def tops (n : Int) (K : Nat) : Nat → List Int
  | 0 => []
  | j + 1 => tops n K j ++ [n / 2 ^ (8 * (K - 1 - j)) % 256]

theorem tops1 (n : Int) (h0 : 0 ≤ n) (h : n < 64) : tops n 1 1 = [n] := by
  simp [tops]; omega
theorem tops2 (n : Int) (h0 : 0 ≤ n) (h : n < 16384) : tops n 2 2 = [n / 256, n % 256] := by
  simp [tops]; omega
theorem tops4 (n : Int) (h0 : 0 ≤ n) (h : n < 1073741824) : tops n 4 4 = [n / 16777216, n / 65536 % 256, n / 256 % 256, n % 256] := by
  simp [tops]; omega
theorem tops8 (n : Int) (h0 : 0 ≤ n) (h : n < 4611686018427387904) : tops n 8 8 = [n / 72057594037927936, n / 281474976710656 % 256, n / 1099511627776 % 256, n / 4294967296 % 256, n / 16777216 % 256, n / 65536 % 256, n / 256 % 256, n % 256] := by
  simp [tops]; omega

theorem own_shape' {W : World} {S : Nat} {a : Option Addr} {n c : Nat} {xs : List Value} (h : W.ownsRow S 5 1 (.slice a n c) n xs) : (a = none ∧ n = 0) ∨ ∃ g, a = some ⟨g, 0, none⟩ := by
  rcases h.2 with ⟨h1, h2⟩ | ⟨g, c, _, h1, _, _, h2, _⟩
  · injection h1 with e; exact .inl ⟨e, h2⟩
  · injection h1 with e; exact .inr ⟨g, e⟩

set_option maxRecDepth 20000 in
set_option maxHeartbeats 4000000 in
theorem refput_own (n : Int) (K : Nat) (w : World) (h0 : 0 ≤ n) (h1 : n < 4611686018427387904) (hK : IsSize n K) :
    Calls Tryd.prog 27 #[.int .u64 n] w fun e w' => ∃ g c, e = .returned (.tuple #[.slice (some ⟨g, 0, none⟩) (putL n).length c, .int .i64 0]) ∧ Owns w.heap.size w' g (putL n).length c (putL n) ∧ Below w.heap.size w w' := by
  obtain ⟨i0, hi, hz0, hz1, hz2⟩ := info_parts Tryd.infoByteV
  have HK : Hid (IsSize n K) := hK
  have hK8 : K ≤ 8 := by unfold IsSize at hK; omega
  have hK1 : 1 ≤ K := by unfold IsSize at hK; omega
  clear hK
  go_enter Tryd.func27, Tryd.ntmps27
  go_wp2_with fail
  refine (size_any n K w HK.out).mono ?_
  rintro e2 w2 ⟨rfl, hw2⟩
  obtain rfl := hw2.symm
  go_wp2_with fail
  go_loopw [5, 6] (fun t i wr => ∃ (j : Nat) (ao : Option Addr) (c : Nat), j ≤ K ∧ i = .int .i64 ((K : Int) - 1 - j) ∧ t = .slice ao j c ∧ wr.ownsRow w.heap.size 5 1 (.slice ao j c) j ((tops n K j).map (Value.int .u8)) ∧ Below w.heap.size w wr) (fun _ i _ => (intOf i + 1).toNat)
  case atStart => exact ⟨0, none, 0, Nat.zero_le _, by simp, rfl, World.ownsRow_nil _ _ _ _, Below.refl _ _⟩
  case round =>
    obtain ⟨j, ao, c, hj, rfl, rfl, hown, hbel⟩ := hrel
    have hsz := hbel.size
    by_cases hlt : j < K
    · obtain ⟨r, hr⟩ : ∃ r : Nat, r = K - 1 - j := ⟨_, rfl⟩
      have hr2 : (K : Int) - 1 - j = (r : Int) := by omega
      have hr8 : r < 8 := by omega
      have hs1 := shr8 n r hr8
      have hs2 := wrap8 r hr8
      rw [hr2]
      have HR : Hid (r = K - 1 - j) := hr
      clear hr hr2
      have HO : Hid (wr.ownsRow w.heap.size 5 1 (.slice ao j c) j ((tops n K j).map (Value.int .u8))) := hown
      have HB : Hid (Below w.heap.size w wr) := hbel
      clear hown hbel
      go_wp2_with (at_builtin; refine wpList_append_own _ rfl _ _ 28 rfl w.heap.size 5 i0 (.int .u8 0) 1 1 Tryd.underlying28 hi hz0 hz1 hz2 rfl (by decide) _ _ _ rfl (HO.out.alloc _) ⟨wr.heap.size, 0, none⟩ 1 1 [.int .u8 (n / 2 ^ (8 * r) % 256)] rfl rfl (cell_one_new _ _ _) (by simp [Value.oneCell']) (by unfold maxLen; omega) (by omega) (by simp; omega) ?_; intro v' w1 hown' hgrow _)
      obtain ⟨g', c', rfl⟩ := ownsRow_succ hown'
      have HO1 : Hid (w1.ownsRow w.heap.size 5 1 (.slice (some ⟨g', 0, none⟩) (j + 1) c') (j + 1) ((tops n K (j + 1)).map (Value.int .u8))) := by
        have e : (tops n K (j + 1)).map (Value.int .u8) = (tops n K j).map (Value.int .u8) ++ [.int .u8 (n / 2 ^ (8 * r) % 256)] := by
          rw [tops, List.map_append, HR.out]; rfl
        rw [e]
        exact hown'
      have HB1 : Hid (Below w.heap.size w w1) := (HB.out.alloc HB.out.size _).grown hgrow (by simp; omega) (fun k e => by
        have := (HO.out.alloc (.cells #[.int .u8 (n / 2 ^ (8 * r) % 256)] 5)).lt k e
        exact this.1)
      have hrK : (r : Int) - 1 = (K : Int) - 1 - ((j + 1 : Nat) : Int) := by have := HR.out; omega
      clear hown' hgrow hs1 hs2
      go_wp2_with fail
      go_roundw
      case rel => exact ⟨j + 1, _, c', by omega, by rw [hrK], rfl, HO1.out, HB1.out⟩
      case measure => simp [intOf]
    · have hjK : j = K := by omega
      subst hjK
      have hng : (j : Int) - 1 - j = -1 := by omega
      rw [hng]
      clear hng
      obtain ⟨g, rfl⟩ : ∃ g, ao = some ⟨g, 0, none⟩ := by
        rcases own_shape' hown with ⟨_, h2⟩ | ⟨g, h1⟩
        · omega
        · exact ⟨g, h1⟩
      have HB : Hid (Below w.heap.size w wr) := hbel
      clear hbel
      have hg := (hown.lt g rfl).1
      rcases HK.out with ⟨c1, rfl⟩ | ⟨c1, c2, rfl⟩ | ⟨c1, c2, rfl⟩ | ⟨c1, rfl⟩
      · rw [tops1 n h0 c1] at hown
        have HO : Hid (wr.ownsRow w.heap.size 5 1 (.slice (some ⟨g, 0, none⟩) 1 c) 1 ([n].map (Value.int .u8))) := hown
        clear hown
        go_wp2_with fail
        go_ret2
        have e : putL n = [n] := by unfold putL; rw [if_pos c1]
        rw [e]
        exact ⟨g, c, rfl, ⟨rfl, HO.out⟩, HB.out⟩
      · rw [tops2 n h0 c2] at hown
        have hor := or_kind (n / 256) 1 (by omega) (by omega) (by decide) (by decide)
        simp only [Int.reduceMul] at hor
        have hc0 : wr.cell? ⟨g, 0, none⟩ = some (.int .u8 (n / 256)) := by rw [hown.cellAt 0 (by decide)]; rfl
        have hf0 := hown.frozenAt 0
        have HO : Hid ((wr.setCell ⟨g, 0, none⟩ (.int .u8 (64 + n / 256))).ownsRow w.heap.size 5 1 (.slice (some ⟨g, 0, none⟩) 2 c) 2 ([64 + n / 256, n % 256].map (Value.int .u8))) := (hown.stored 0 (.int .u8 (64 + n / 256))).1
        clear hown
        go_wp2_with fail
        go_ret2
        have e : putL n = [64 + n / 256, n % 256] := by unfold putL; rw [if_neg (show ¬ n < 64 by omega), if_pos c2]
        rw [e]
        exact ⟨g, c, rfl, ⟨rfl, HO.out⟩, HB.out.setCell (p := ⟨g, 0, none⟩) hg _⟩
      · rw [tops4 n h0 c2] at hown
        have hor := or_kind (n / 16777216) 2 (by omega) (by omega) (by decide) (by decide)
        simp only [Int.reduceMul] at hor
        have hc0 : wr.cell? ⟨g, 0, none⟩ = some (.int .u8 (n / 16777216)) := by rw [hown.cellAt 0 (by decide)]; rfl
        have hf0 := hown.frozenAt 0
        have HO : Hid ((wr.setCell ⟨g, 0, none⟩ (.int .u8 (128 + n / 16777216))).ownsRow w.heap.size 5 1 (.slice (some ⟨g, 0, none⟩) 4 c) 4 ([128 + n / 16777216, n / 65536 % 256, n / 256 % 256, n % 256].map (Value.int .u8))) := (hown.stored 0 (.int .u8 (128 + n / 16777216))).1
        clear hown
        go_wp2_with fail
        go_ret2
        have e : putL n = [128 + n / 16777216, n / 65536 % 256, n / 256 % 256, n % 256] := by unfold putL; rw [if_neg (show ¬ n < 64 by omega), if_neg (show ¬ n < 16384 by omega), if_pos c2]
        rw [e]
        exact ⟨g, c, rfl, ⟨rfl, HO.out⟩, HB.out.setCell (p := ⟨g, 0, none⟩) hg _⟩
      · rw [tops8 n h0 h1] at hown
        have hor := or_kind (n / 72057594037927936) 3 (by omega) (by omega) (by decide) (by decide)
        simp only [Int.reduceMul] at hor
        have hc0 : wr.cell? ⟨g, 0, none⟩ = some (.int .u8 (n / 72057594037927936)) := by rw [hown.cellAt 0 (by decide)]; rfl
        have hf0 := hown.frozenAt 0
        have HO : Hid ((wr.setCell ⟨g, 0, none⟩ (.int .u8 (192 + n / 72057594037927936))).ownsRow w.heap.size 5 1 (.slice (some ⟨g, 0, none⟩) 8 c) 8 ([192 + n / 72057594037927936, n / 281474976710656 % 256, n / 1099511627776 % 256, n / 4294967296 % 256, n / 16777216 % 256, n / 65536 % 256, n / 256 % 256, n % 256].map (Value.int .u8))) := (hown.stored 0 (.int .u8 (192 + n / 72057594037927936))).1
        clear hown
        go_wp2_with fail
        go_ret2
        have e : putL n = [192 + n / 72057594037927936, n / 281474976710656 % 256, n / 1099511627776 % 256, n / 4294967296 % 256, n / 16777216 % 256, n / 65536 % 256, n / 256 % 256, n % 256] := by unfold putL; rw [if_neg (show ¬ n < 64 by omega), if_neg (show ¬ n < 16384 by omega), if_neg (show ¬ n < 1073741824 by omega)]
        rw [e]
        exact ⟨g, c, rfl, ⟨rfl, HO.out⟩, HB.out.setCell (p := ⟨g, 0, none⟩) hg _⟩
end Go.Proofs.YtjccjlhnjihfjaaDoor
