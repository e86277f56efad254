/-
  Some answers that the document fixes.
-/
import Derived.Test.YtiecpkkklefjdaaGtTxLaw
namespace Go.Proofs.Ytiecpkkklefjdaa
open Go Go.RowKit

theorem txvec_1 : Tx.putX 0 127 (bOf ⟨#[99, 117, 115, 116, 111, 109, 45, 107, 101, 121]⟩) = [136#8, 37#8, 168#8, 73#8, 233#8, 91#8, 169#8, 125#8, 127#8] := by decide +kernel
theorem txvec_2 : Tx.putX 0 127 (bOf ⟨#[126, 126]⟩) = [2#8, 126#8, 126#8] := by decide +kernel
theorem txvec_3 : Tx.getX 7 [234#8, 100#8, 2#8] = (224, [51#8, 48#8, 50#8], 3, 0) := by decide +kernel
theorem txvec_4 : Tx.getX 127 [129#8, 255#8] = (0, [], 0, 5) := by decide +kernel
theorem txlit_ok (w : World) (b : List By) (cs : Array Value) (h : cs = bs b) : (bsl w.heap.size b).Ok (w.alloc (.cells cs 5)) := by
  subst h
  have r : Row (w.alloc (.cells (bs b) 5)) w.heap.size 5 (bs b) := Row.new _ _ _
  exact ⟨rfl, Nat.le_refl _, (fun e => by cases e), fun _ => rfl, fun _ => r.lt, fun j hj => by rw [show (bsl w.heap.size b).off + j = j from Nat.zero_add j]; exact r.cellB hj⟩
theorem xget_lit (w : World) (B M : Int) (h : Tx.Bt B M) (b : List By) (cs : Array Value) (k : Nat) (a n e : Int) (s : List By) (hcs : cs = bs b) (hn : b.length = k) (hl : k ≤ 100) (hg : Tx.getX M b = (a, s, n, e)) :
    Calls Try.prog 10 #[.int .i64 B, .slice (some ⟨w.heap.size, 0, none⟩) k k] (w.alloc (.cells cs 5)) fun e' w' => e' = .returned (.tuple #[.int .u8 a, .string (strOf s), .int .i64 n, .int .i64 e]) ∧ Below w.heap.size w w' := by
  subst hn
  have bel : Below w.heap.size w (w.alloc (.cells cs 5)) := (Below.refl _ w).alloc (Nat.le_refl _) _
  refine (xget_any (bsl w.heap.size b) B M _ h (txlit_ok w b cs hcs) (show b.length ≤ _ by omega)).mono ?_
  rintro e' w' ⟨rfl, hb⟩
  exact ⟨by rw [show (bsl w.heap.size b).b = b from rfl, getXV_of hg], bel.trans (hb.mono bel.size)⟩
theorem same_lit (w : World) (p : SL) (hp : p.Ok w) (b : List By) (cs : Array Value) (k : Nat) (hcs : cs = bs b) (hn : b.length = k) (hl : k ≤ 100) (hg : p.b = b) :
    Calls Try.prog 24 #[.slice p.a p.len p.cap, .slice (some ⟨w.heap.size, 0, none⟩) k k] (w.alloc (.cells cs 5)) fun e w' => e = .returned (.bool true) ∧ Below w.heap.size w w' := by
  subst hn
  have bel : Below w.heap.size w (w.alloc (.cells cs 5)) := (Below.refl _ w).alloc (Nat.le_refl _) _
  have hpl : p.len ≤ 100 := by rw [← hp.hb, hg]; exact hl
  refine (same_bool p (bsl w.heap.size b) _ (hp.below bel) (txlit_ok w b cs hcs) (by omega) (show b.length ≤ _ by omega)).mono ?_
  rintro e w' ⟨rfl, hb⟩
  exact ⟨by rw [show (bsl w.heap.size b).b = b from rfl, decide_eq_true hg], bel.trans (hb.mono bel.size)⟩
theorem str302 : strOf [51#8, 48#8, 50#8] = ⟨#[51, 48, 50]⟩ := by decide
theorem bt8 : Tx.Bt 8 127 := .inr (.inr (.inr (.inr (.inr (.inr ⟨rfl, rfl⟩)))))
theorem bt4 : Tx.Bt 4 7 := .inr (.inr (.inl ⟨rfl, rfl⟩))
set_option maxRecDepth 20000 in
set_option maxHeartbeats 2000000 in
theorem alive_any (w : World) : Calls Try.prog 13 #[] w fun e w' => e = .returned (.bool true) ∧ Below w.heap.size w w' := by
  go_enter Try.func13, Try.ntmps13
  go_wp2_with fail
  refine (xput_sl 0 8 127 _ w bt8 (by decide) (by decide) (by decide) (by decide)).mono ?_
  rintro e1 w1 ⟨p1, rfl, hp1, hpb1, hx1, hy1, hb1⟩
  clear hx1 hy1
  rw [txvec_1] at hpb1
  have HP1 := veil hp1
  have HPB1 := veil hpb1
  clear hp1 hpb1
  go_wp2_with fail
  refine (xput_sl 0 8 127 _ w1 bt8 (by decide) (by decide) (by decide) (by decide)).mono ?_
  rintro e2 w2 ⟨p2, rfl, hp2, hpb2, hx2, hy2, hb2⟩
  clear hx2 hy2
  rw [txvec_2] at hpb2
  have HP2 := veil hp2
  have HPB2 := veil hpb2
  have HP1' := veil (HP1.out.below hb2)
  have b2 := hb1.trans (hb2.mono hb1.size)
  clear hp2 hpb2 hb1 hb2 HP1
  go_wp2_with fail
  refine (xget_lit w2 4 7 bt4 [234#8, 100#8, 2#8] _ 3 224 3 0 [51#8, 48#8, 50#8] (by rfl) rfl (by decide) txvec_3).mono ?_
  rintro e3 w3 ⟨rfl, hb3⟩
  rw [str302]
  have b3 := b2.trans (hb3.mono b2.size)
  have HP1 := veil (HP1'.out.below hb3)
  have HP2' := veil (HP2.out.below hb3)
  clear HP1' HP2 hb3 b2
  go_wp2_with fail
  refine (xget_lit w3 8 127 bt8 [129#8, 255#8] _ 2 0 0 5 [] (by rfl) rfl (by decide) txvec_4).mono ?_
  rintro e4 w4 ⟨rfl, hb4⟩
  have b4 := b3.trans (hb4.mono b3.size)
  have HP1' := veil (HP1.out.below hb4)
  have HP2 := veil (HP2'.out.below hb4)
  clear HP1 HP2' hb4 b3
  go_wp2_with fail
  refine (xget_bits _ 1 1 1 _ (by decide)).mono ?_
  rintro e5 w5 ⟨rfl, hw5⟩
  have hb5 : Below w4.heap.size w4 w5 := by rw [hw5]; exact (Below.refl _ w4).alloc (Nat.le_refl _) _
  have b5 := b4.trans (hb5.mono b4.size)
  have HP1 := veil (HP1'.out.below hb5)
  have HP2' := veil (HP2.out.below hb5)
  clear HP1' HP2 hb5 b4 hw5
  go_wp2_with fail
  refine (same_lit w5 p1 HP1.out _ _ 9 (by rfl) rfl (by decide) HPB1.out).mono ?_
  rintro e6 w6 ⟨rfl, hb6⟩
  have b6 := b5.trans (hb6.mono b5.size)
  have HP2 := veil (HP2'.out.below hb6)
  clear hb6 b5 HP2' HP1
  go_wp2_with fail
  refine (same_lit w6 p2 HP2.out _ _ 3 (by rfl) rfl (by decide) HPB2.out).mono ?_
  rintro e7 w7 ⟨rfl, hb7⟩
  have b7 := b6.trans (hb7.mono b6.size)
  clear hb7 b6
  go_wp2_with fail
  go_ret
  exact ⟨rfl, b7⟩
end Go.Proofs.Ytiecpkkklefjdaa
