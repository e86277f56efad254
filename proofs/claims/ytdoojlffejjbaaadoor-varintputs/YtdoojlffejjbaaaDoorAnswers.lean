/-
  An answer of bytes: none, or a row of its own.
-/
import Derived.Test.YtdoojlffejjbaaaDoorRefPut
import Derived.Test.YtdoojlffejjbaaaDoorApartBook
import Derived.Test.YtdoojlffejjbaaaDoorSame
namespace Go.Proofs.YtdoojlffejjbaaaDoor
open Go.RowKit

def OwnsV (S : Nat) (w : World) (a : Option Addr) (n c : Nat) (xs : List Int) : Prop :=
  xs.length = n ∧ w.ownsRow S 5 1 (.slice a n c) n (xs.map (Value.int .u8))

theorem OwnsV.none (S : Nat) (w : World) : OwnsV S w .none 0 0 [] := ⟨rfl, World.ownsRow_nil _ _ _ _⟩

theorem OwnsV.of {S : Nat} {w : World} {g n c : Nat} {xs : List Int} (h : Owns S w g n c xs) : OwnsV S w (some ⟨g, 0, Option.none⟩) n c xs := h

theorem OwnsV.lies {S : Nat} {w : World} {a : Option Addr} {n c : Nat} {xs : List Int} (h : OwnsV S w a n c xs) : Lies w a xs := by
  obtain ⟨h1, h2⟩ := h
  rcases own_shape' h2 with ⟨rfl, h3⟩ | ⟨g, rfl⟩
  · exact .inl (List.eq_nil_of_length_eq_zero (by omega))
  · exact Owns.lies (base := S) (len := n) (cap := c) ⟨h1, h2⟩

theorem OwnsV.mono {S T : Nat} {w : World} {a : Option Addr} {n c : Nat} {xs : List Int} (h : OwnsV S w a n c xs) (hT : T ≤ S) : OwnsV T w a n c xs := by
  obtain ⟨h1, h2, h3⟩ := h
  refine ⟨h1, h2, ?_⟩
  rcases h3 with h3 | ⟨g', cap', cur, e, h5, h6, h7⟩
  · exact .inl h3
  · exact .inr ⟨g', cap', cur, e, Nat.le_trans hT h5, h6, h7⟩

theorem OwnsV.step {S : Nat} {w w' : World} {a : Option Addr} {n c : Nat} {xs : List Int} (h : OwnsV S w a n c xs) (hb : Below w.heap.size w w') : OwnsV S w' a n c xs := by
  obtain ⟨h1, h2, h3⟩ := h
  refine ⟨h1, h2, ?_⟩
  rcases h3 with h3 | ⟨g', cap', cur, e, h5, h6, h7⟩
  · exact .inl h3
  · exact .inr ⟨g', cap', cur, e, h5, (hb.block g' (Array.getElem?_eq_some_iff.1 h6).1).trans h6, h7⟩

theorem OwnsV.lt {S : Nat} {w : World} {a : Option Addr} {n c : Nat} {xs : List Int} (h : OwnsV S w a n c xs) : ∀ k, (Value.slice a n c).ownBlock = some k → S ≤ k ∧ k < w.heap.size := fun k e => h.2.lt k e

theorem same_yes {S T : Nat} {w v : World} {a b : Option Addr} {n c d : Nat} {xs : List Int} (h1 : OwnsV S w a n c xs) (h2 : OwnsV T v b n d xs) (hn : n ≤ 1000) (W : World) (hw : Below w.heap.size w W) (hv : Below v.heap.size v W) :
    Calls Tryd.prog 10 #[.slice a n c, .slice b n d] W fun e w' => e = .returned (.bool true) ∧ Below W.heap.size W w' := by
  refine (same_any a b n c d xs xs W h1.1 h1.1 (by omega) (h1.lies.belowL hw) (h2.lies.belowL hv)).mono ?_
  rintro e w' ⟨rfl, hb⟩
  exact ⟨by simp, hb⟩

/-- The two lists that were told are apart. -/
theorem apart_two (S B n : Nat) (c1 c2 : Nat) (a1 a2 : Option Addr) (V : Value) (E : Nat → Value) (N : Nat → Nat) (X : Nat → List Value) (x1 x2 : List Value) (w0 W : World) (hn : n ≤ 1000) (bk : Bk S B 2 2 V (upd (upd E 0 (.slice a1 n c1)) 1 (.slice a2 n c2)) (upd (upd N 0 n) 1 n) (upd (upd X 0 x1) 1 x2) w0 W) :
    Calls Tryd.prog 12 #[.pointer (some ⟨B, 0, none⟩)] W fun e w' => e = .returned (.bool true) ∧ Below S w0 w' :=
  apart_book S B 2 V _ _ _ w0 W (by decide) (by decide) (fun i hi => by
    have : i = 0 ∨ i = 1 := by omega
    rcases this with rfl | rfl
    · show n ≤ 1000000; omega
    · show n ≤ 1000000; omega) bk

/-- What is told of two answers, one behind the other. -/
theorem two_apart {S : Nat} {w1 w2 : World} {a1 a2 : Option Addr} {n c1 c2 : Nat} {xs : List Int} (h1 : OwnsV S w1 a1 n c1 xs) (h2 : OwnsV w1.heap.size w2 a2 n c2 xs) : (Value.slice a1 n c1).ownBlock = none ∨ (Value.slice a1 n c1).ownBlock ≠ (Value.slice a2 n c2).ownBlock := by
  cases e : (Value.slice a1 n c1).ownBlock with
  | none => exact .inl rfl
  | some k =>
    right
    intro e2
    have := (h1.lt k e).2
    have := (h2.lt k e2.symm).1
    omega
end Go.Proofs.YtdoojlffejjbaaaDoor
