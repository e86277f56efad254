/-
  Some answers that the document fixes.
-/
import Derived.Test.YtdieodhfkmnbcaaHfLaw
namespace Go.Proofs.Ytdieodhfkmnbcaa
open Go Go.RowKit

theorem vec_1 : Hf.getT [255#8] = none := by decide +kernel
theorem vec_2 : Hf.getT [255#8, 255#8, 255#8, 252#8, 255#8] = none := by decide +kernel
theorem vec_3 : Hf.packL (Hf.txt (bOf ⟨#[119, 119, 119, 46, 101, 120, 97, 109, 112, 108, 101, 46, 99, 111, 109]⟩)) = [241#8, 227#8, 194#8, 229#8, 242#8, 58#8, 107#8, 160#8, 171#8, 144#8, 244#8, 255#8] := by decide +kernel
theorem vec_4 : Hf.packL (Hf.txt (bOf ⟨#[51, 48, 50]⟩)) = [100#8, 2#8] := by decide +kernel
theorem vec_5 : Hf.packL (Hf.txt (bOf ⟨#[110, 111, 45, 99, 97, 99, 104, 101]⟩)) = [168#8, 235#8, 16#8, 100#8, 156#8, 191#8] := by decide +kernel
theorem vec_6 : Hf.packL (Hf.txt (bOf ⟨#[112, 114, 105, 118, 97, 116, 101]⟩)) = [174#8, 195#8, 119#8, 26#8, 75#8] := by decide +kernel
theorem lit_ok (w : World) (b : List By) (cs : Array Value) (h : cs = bs b) : (bsl w.heap.size b).Ok (w.alloc (.cells cs 5)) := by
  subst h
  have r : Row (w.alloc (.cells (bs b) 5)) w.heap.size 5 (bs b) := Row.new _ _ _
  exact ⟨rfl, Nat.le_refl _, (fun e => by cases e), fun _ => rfl, fun _ => r.lt, fun j hj => by rw [show (bsl w.heap.size b).off + j = j from Nat.zero_add j]; exact r.cellB hj⟩
theorem get_none (w : World) (b : List By) (cs : Array Value) (n : Nat) (h : cs = bs b) (hn : b.length = n) (hl : n ≤ 100) (hg : Hf.getT b = none) :
    Calls Try.prog 10 #[.slice (some ⟨w.heap.size, 0, none⟩) n n] (w.alloc (.cells cs 5)) fun e w' => e = .returned (.tuple #[.string ⟨#[]⟩, .int .i64 5]) ∧ Below w.heap.size w w' := by
  subst hn
  have bel : Below w.heap.size w (w.alloc (.cells cs 5)) := (Below.refl _ w).alloc (Nat.le_refl _) _
  refine (get_any (bsl w.heap.size b) _ (lit_ok w b cs h) (show b.length ≤ 1048576 by omega)).mono ?_
  rintro e w' ⟨s, E, rfl, hc, hb⟩
  rcases hc with ⟨_, rfl, rfl⟩ | ⟨t, ht, _⟩
  · exact ⟨rfl, bel.trans (hb.mono bel.size)⟩
  · rw [show (bsl w.heap.size b).b = b from rfl, hg] at ht
    cases ht
theorem is_lit (w : World) (s : ByteArray) (b : List By) (cs : Array Value) (n : Nat) (h : cs = bs b) (hn : b.length = n) (hl : n ≤ 100) (hs : s.size ≤ 65536) (hg : Hf.packL (Hf.txt (bOf s)) = b) :
    Calls Try.prog 26 #[.string s, .slice (some ⟨w.heap.size, 0, none⟩) n n] (w.alloc (.cells cs 5)) fun e w' => e = .returned (.bool true) ∧ Below w.heap.size w w' := by
  subst hn
  have bel : Below w.heap.size w (w.alloc (.cells cs 5)) := (Below.refl _ w).alloc (Nat.le_refl _) _
  refine (is_any s (bsl w.heap.size b) _ hs (lit_ok w b cs h) (show b.length ≤ 1000000 by omega) hg).mono ?_
  rintro e w' ⟨rfl, hb⟩
  exact ⟨rfl, bel.trans (hb.mono bel.size)⟩
set_option maxRecDepth 20000 in
set_option maxHeartbeats 1000000 in
theorem alive_any (w : World) : Calls Try.prog 13 #[] w fun e w' => e = .returned (.bool true) ∧ Below w.heap.size w w' := by
  go_enter Try.func13, Try.ntmps13
  go_wp2_with fail
  refine (get_none w [255#8] _ 1 (by rfl) rfl (by decide) vec_1).mono ?_
  rintro e1 w1 ⟨rfl, hb1⟩
  go_wp2_with fail
  refine (get_none w1 [255#8, 255#8, 255#8, 252#8, 255#8] _ 5 (by rfl) rfl (by decide) vec_2).mono ?_
  rintro e2 w2 ⟨rfl, hb2⟩
  have b2 := hb1.trans (hb2.mono hb1.size)
  clear hb2
  go_wp2_with fail
  refine (is_lit w2 _ _ _ 12 (by rfl) rfl (by decide) (by decide) vec_3).mono ?_
  rintro e3 w3 ⟨rfl, hb3⟩
  have b3 := b2.trans (hb3.mono b2.size)
  clear hb3
  go_wp2_with fail
  refine (is_lit w3 _ _ _ 2 (by rfl) rfl (by decide) (by decide) vec_4).mono ?_
  rintro e4 w4 ⟨rfl, hb4⟩
  have b4 := b3.trans (hb4.mono b3.size)
  clear hb4
  go_wp2_with fail
  refine (is_lit w4 _ _ _ 6 (by rfl) rfl (by decide) (by decide) vec_5).mono ?_
  rintro e5 w5 ⟨rfl, hb5⟩
  have b5 := b4.trans (hb5.mono b4.size)
  clear hb5
  go_wp2_with fail
  refine (is_lit w5 _ _ _ 5 (by rfl) rfl (by decide) (by decide) vec_6).mono ?_
  rintro e6 w6 ⟨rfl, hb6⟩
  have b6 := b5.trans (hb6.mono b5.size)
  clear hb6
  go_wp2_with fail
  go_ret
  exact ⟨rfl, b6⟩
end Go.Proofs.Ytdieodhfkmnbcaa
