/-
  What hkdf.Label answers.
-/
import Derived.Test.YtlicflmpakkccaaDoorGkHkInfo
namespace Go.Proofs.YtlicflmpakkccaaDoor
open Go Go.RowKit

/-- What may be asked of a name. -/
def labFits (n c : Nat) (N : Int) : Prop := n ≤ 249 ∧ c ≤ 255 ∧ 0 ≤ N ∧ N ≤ 8160

set_option maxRecDepth 20000 in
set_option maxHeartbeats 1000000 in
theorem label_arg (k c : SL) (s : ByteArray) (N : Int) (w : World) (hf : ¬ labFits s.size c.len N) :
    Calls Tryd.prog 16 #[.slice k.a k.len k.cap, .string s, .slice c.a c.len c.cap, .int .i64 N] w fun e w' => e = .returned (.tuple #[.slice none 0 0, .int .i64 1]) ∧ Below w.heap.size w w' := by
  unfold labFits at hf
  have HF := veil hf
  clear hf
  go_enter Tryd.func16, Tryd.ntmps16
  by_cases h1 : (249 : Int) < (s.size : Int)
  · go_wp2_with fail
    go_ret2
    exact ⟨rfl, Below.refl _ _⟩
  · by_cases h2 : (255 : Int) < (c.len : Int)
    · go_wp2_with fail
      go_ret2
      exact ⟨rfl, Below.refl _ _⟩
    · go_wp2_with fail
      refine (told_any N _).mono ?_
      rintro e1 w1 ⟨rfl, hw⟩
      rw [hw, decide_eq_false (by have := HF.out; omega)]
      clear hw w1
      go_wp2_with fail
      go_ret2
      exact ⟨rfl, Below.refl _ _⟩

set_option maxRecDepth 20000 in
set_option maxHeartbeats 1000000 in
theorem label_limit (k c : SL) (s : ByteArray) (N : Nat) (w : World) (hc : c.Ok w) (h1 : s.size ≤ 249) (h2 : c.len ≤ 255) (h3 : N ≤ 8160) (h4 : 1048576 < k.len) :
    Calls Tryd.prog 16 #[.slice k.a k.len k.cap, .string s, .slice c.a c.len c.cap, .int .i64 (N : Int)] w fun e w' => e = .returned (.tuple #[.slice none 0 0, .int .i64 3]) ∧ Below w.heap.size w w' := by
  have HC := veil hc
  clear hc
  go_enter Tryd.func16, Tryd.ntmps16
  have g1 : ¬ (249 : Int) < (s.size : Int) := by omega
  have g2 : ¬ (255 : Int) < (c.len : Int) := by omega
  go_wp2_with fail
  refine (told_any N _).mono ?_
  rintro e1 w1 ⟨rfl, hw⟩
  rw [hw, decide_eq_true (by omega)]
  clear hw w1
  go_wp2_with fail
  refine (info_any s c N w h1 HC.out h2 h3).mono ?_
  rintro e2 w2 ⟨q, rfl, hq, hqb, hb2⟩
  go_wp2_with fail
  refine (expand_limit k q (N : Int) w2 (by omega) (.inl h4)).mono ?_
  rintro e3 w3 ⟨rfl, hb3⟩
  go_wp2_with fail
  go_ret2
  exact ⟨rfl, hb2.trans (hb3.mono hb2.size)⟩

set_option maxRecDepth 20000 in
set_option maxHeartbeats 1000000 in
theorem label_ok (k c : SL) (s : ByteArray) (N : Nat) (w : World) (hk : k.Ok w) (hc : c.Ok w) (h1 : s.size ≤ 249) (h2 : c.len ≤ 255) (h3 : N ≤ 8160) (h4 : k.len ≤ 1048576) :
    Calls Tryd.prog 16 #[.slice k.a k.len k.cap, .string s, .slice c.a c.len c.cap, .int .i64 (N : Int)] w fun e w' => ∃ g, e = .returned (.tuple #[.slice (some ⟨g, 0, none⟩) N N, .int .i64 0]) ∧ w'.ownsRow w.heap.size 5 1 (.slice (some ⟨g, 0, none⟩) N N) N (vb (expandL (keyL k.b) (infoL (bOf s) c.b N) N)) ∧ Below w.heap.size w w' := by
  have HC := veil hc
  have HK := veil hk
  have hcb := hc.hb
  clear hc hk
  go_enter Tryd.func16, Tryd.ntmps16
  have g1 : ¬ (249 : Int) < (s.size : Int) := by omega
  have g2 : ¬ (255 : Int) < (c.len : Int) := by omega
  go_wp2_with fail
  refine (told_any N _).mono ?_
  rintro e1 w1 ⟨rfl, hw⟩
  rw [hw, decide_eq_true (by omega)]
  clear hw w1
  go_wp2_with fail
  refine (info_any s c N w h1 HC.out h2 h3).mono ?_
  rintro e2 w2 ⟨q, rfl, hq, hqb, hb2⟩
  have hql : q.len ≤ 1048479 := by rw [← hq.hb, hqb, infoL_length, bOf_length, hcb]; omega
  have HQ := veil hq
  have HQB := veil hqb
  have HB2 := veil hb2
  clear hq hqb hb2
  go_wp2_with fail
  refine (expand_ok k q N w2 (HK.out.below HB2.out) HQ.out h3 h4 hql).mono ?_
  rintro e3 w3 ⟨g, rfl, hown, hb3⟩
  rw [HQB.out] at hown
  go_wp2_with fail
  go_ret2
  exact ⟨g, rfl, own_low hown HB2.out.size, HB2.out.trans (hb3.mono HB2.out.size)⟩
end Go.Proofs.YtlicflmpakkccaaDoor
