/-
  How PiecesPlays begins.
-/
import Derived.Test.YtekgdljbninjiaaDoorGpPcState
import Derived.Test.YtekgdljbninjiaaDoorGpPcLine
import Derived.Test.YtekgdljbninjiaaDoorGpPcGreat
import Derived.Test.YtekgdljbninjiaaDoorGp9
namespace Go.Proofs.YtekgdljbninjiaaDoor
open Go Go.RowKit Go.Maps Go.Shelf

namespace Pc
def oNew (rm : Int) : Option PS := if 0 ≤ rm ∧ rm ≤ 1048576 then some (newS rm.toNat) else none
def oNE (rm : Int) : Nat := if 0 ≤ rm ∧ rm ≤ 1048576 then 0 else 1
end Pc
theorem new_o (rm : Int) (w : World) :
    Calls Tryd.prog 5 #[.int .i64 rm] w fun e w' => ∃ P g m, e = .returned (.tuple #[.pointer P, .int .i64 (Pc.oNE rm : Int)]) ∧ PV w' P g m (Pc.oNew rm) ∧ (∀ k, oTwo (Pc.oNew rm) g m k → w.heap.size ≤ k) ∧ Below w.heap.size w w' := by
  by_cases h : 0 ≤ rm ∧ rm ≤ 1048576
  · have e1 : Pc.oNew rm = some (Pc.newS rm.toNat) := if_pos h
    have e2 : Pc.oNE rm = 0 := if_pos h
    have hn : rm = (rm.toNat : Int) := by omega
    rw [e1, e2]
    rw [hn]
    refine (new_any rm.toNat w (by omega)).mono ?_
    rintro e w' ⟨g, m, rfl, h1, h2, h3, h4⟩
    refine ⟨_, g, m, rfl, ⟨rfl, ?_⟩, ?_, h4⟩
    · rw [← hn]; exact h1
    · rintro k ⟨_, rfl | rfl⟩
      · exact h2
      · exact h3
  · have e1 : Pc.oNew rm = none := if_neg h
    have e2 : Pc.oNE rm = 1 := if_neg h
    rw [e1, e2]
    refine (new_no rm w (by omega)).mono ?_
    rintro e w' ⟨rfl, rfl⟩
    exact ⟨none, 0, 0, rfl, rfl, (fun k e => by cases e.1), Below.refl _ _⟩
theorem rnew_o (rm : Int) (w : World) :
    Calls Tryd.prog 6 #[.int .i64 rm] w fun e w' => ∃ R r, e = .returned (.tuple #[.pointer R, .int .i64 (Pc.oNE rm : Int)]) ∧ RV w' R r r r (Pc.oNew rm) ∧ (∀ k, oThr (Pc.oNew rm) r r r k → w.heap.size ≤ k) ∧ Below w.heap.size w w' := by
  by_cases h : 0 ≤ rm ∧ rm ≤ 1048576
  · have e1 : Pc.oNew rm = some (Pc.newS rm.toNat) := if_pos h
    have e2 : Pc.oNE rm = 0 := if_pos h
    have hn : rm = (rm.toNat : Int) := by omega
    rw [e1, e2]
    rw [hn]
    refine (rnew_any rm.toNat w (by omega)).mono ?_
    rintro e w' ⟨r, rfl, h1, h2, h4⟩
    refine ⟨_, r, rfl, ⟨rfl, ?_⟩, ?_, h4⟩
    · rw [← hn]; exact h1
    · rintro k ⟨_, rfl | rfl | rfl⟩ <;> exact h2
  · have e1 : Pc.oNew rm = none := if_neg h
    have e2 : Pc.oNE rm = 1 := if_neg h
    rw [e1, e2]
    refine (rnew_no rm w (by omega)).mono ?_
    rintro e w' ⟨rfl, rfl⟩
    exact ⟨none, 0, rfl, rfl, (fun k e => by cases e.1), Below.refl _ _⟩
theorem pv_nil {w : World} {P : Option Addr} {g m : Nat} {x : Option PS} (h : PV w P g m x) : ∀ W, (binOp .eql 24 (.pointer P) (.pointer none)).run Tryd.prog W = .ok (.bool x.isNone) W := by
  intro W
  cases x with
  | none =>
    obtain rfl : P = none := h
    kernel_rfl
  | some S =>
    obtain ⟨rfl, _⟩ := h
    kernel_rfl
theorem rv_nil {w : World} {R : Option Addr} {r gt gb : Nat} {x : Option PS} (h : RV w R r gt gb x) : ∀ W, (binOp .eql 28 (.pointer R) (.pointer none)).run Tryd.prog W = .ok (.bool x.isNone) W := by
  intro W
  cases x with
  | none =>
    obtain rfl : R = none := h
    kernel_rfl
  | some S =>
    obtain ⟨rfl, _⟩ := h
    kernel_rfl
/-- The book is there, and nothing was told. -/
theorem Pl.start {w w1 w2 : World} {P R : Option Addr} {g m r : Nat} {x : Option PS} (h0 : Below w.heap.size w w1) (hp : PV w1 P g m x) (hpl : ∀ k, oTwo x g m k → w.heap.size ≤ k) (hb : Below w1.heap.size w1 w2) (hr : RV w2 R r r r x) (hrl : ∀ k, oThr x r r r k → w1.heap.size ≤ k) (t : TypeId) :
    Pl w P g m R r w2.heap.size (w2.heap.size + 1) 0 (fun _ => False) x x ((w2.alloc (.cells zeroC 34)).alloc (.cells #[.int .i64 0, .slice none 0 0, .slice none 0 0, .slice none 0 0, .slice none 0 0, .slice none 0 0, .slice none 0 0, .slice none 0 0, .slice none 0 0, .slice none 0 0, .slice none 0 0, .slice none 0 0, .slice none 0 0] t)) := by
  have b1 : Below w2.heap.size w2 (w2.alloc (.cells zeroC 34)) := (Below.refl _ _).alloc (Nat.le_refl _) _
  have hs1 : (w2.alloc (.cells zeroC 34)).heap.size = w2.heap.size + 1 := by simp
  have b2 : Below (w2.alloc (.cells zeroC 34)).heap.size (w2.alloc (.cells zeroC 34)) ((w2.alloc (.cells zeroC 34)).alloc (.cells #[.int .i64 0, .slice none 0 0, .slice none 0 0, .slice none 0 0, .slice none 0 0, .slice none 0 0, .slice none 0 0, .slice none 0 0, .slice none 0 0, .slice none 0 0, .slice none 0 0, .slice none 0 0, .slice none 0 0] t)) := (Below.refl _ _).alloc (Nat.le_refl _) _
  have hz0 := h0.size
  have hz1 := hb.size
  have hp2 := hp.below hb
  have bk := Ba.BkI.new w.heap.size (w2.alloc (.cells zeroC 34)) t (by omega)
  rw [hs1] at bk
  have hs2 : ((w2.alloc (.cells zeroC 34)).alloc (.cells #[.int .i64 0, .slice none 0 0, .slice none 0 0, .slice none 0 0, .slice none 0 0, .slice none 0 0, .slice none 0 0, .slice none 0 0, .slice none 0 0, .slice none 0 0, .slice none 0 0, .slice none 0 0, .slice none 0 0] t)).heap.size = w2.heap.size + 1 + 1 := by rw [World.size_alloc, hs1]
  refine ⟨r, r, _, (hp2.below b1).below b2, (hr.below b1).below b2, bk, (Row.new w2 _ _).alloc _, ?_, ?_, ?_, ?_, fun b e => e.elim, ((h0.trans (hb.mono h0.size)).trans (b1.mono (by omega))).trans (b2.mono (by omega))⟩
  · rintro b rfl
    exact ⟨fun e => by have := hp2.lt _ e; omega, fun e => by have := hr.lt _ e; omega, by omega, by rw [hs2]; omega⟩
  · intro b e
    exact ⟨fun e2 => by have := hp.lt b e2; have := hrl b e; omega, fun e2 => by have := hr.lt b e; omega⟩
  · intro e
    have := hp2.lt _ e
    omega
  · rintro b (rfl | e | e | rfl)
    · omega
    · exact hpl b e
    · have := hrl b e; omega
    · omega
/-- A block that is none of it was written. -/
theorem Pl.write {w W W' : World} {P R : Option Addr} {g m r z B n : Nat} {ex : Nat → Prop} {xp xr : Option PS} (h : Pl w P g m R r z B n ex xp xr W) {t : Nat} (ht : ex t) (hw : w.heap.size ≤ t) (k : KeepP (fun b => b = t) W W') : Pl w P g m R r z B n ex xp xr W' := by
  obtain ⟨gt, gb, own, h⟩ := h
  have hx := h.exs t ht
  exact ⟨gt, gb, own, h.pv.keep k (fun b e q => hx.2.2.1 (q ▸ e)), h.rv.keep k (fun b e q => hx.2.2.2.1 (q ▸ e)), h.bk.keep k (fun b e q => hx.2.1 (q ▸ e)), k.row h.zr (fun q => hx.2.2.2.2 q.symm), fun b e => ⟨(h.ot b e).1, (h.ot b e).2.1, (h.ot b e).2.2.1, Nat.lt_of_lt_of_le (h.ot b e).2.2.2 k.size⟩, h.tt, h.tz, h.lo, fun b e => ⟨Nat.lt_of_lt_of_le (h.exs b e).1 k.size, (h.exs b e).2⟩, h.bel.trans (low_of k h.bel.size (fun b e => e ▸ hw))⟩
theorem Pl.reads {w W : World} {P R : Option Addr} {g m r z B n : Nat} {ex : Nat → Prop} {xp xr : Option PS} (h : Pl w P g m R r z B n ex xp xr W) : PV W P g m xp ∧ ∃ gt gb, RV W R r gt gb xr := by
  obtain ⟨gt, gb, own, h⟩ := h
  exact ⟨h.pv, gt, gb, h.rv⟩
theorem Pl.fine {w W : World} {P R : Option Addr} {g m r z B n : Nat} {ex : Nat → Prop} {xp xr : Option PS} (h : Pl w P g m R r z B n ex xp xr W) (N : Nat) : (Pc.oL xp N).length ≤ 1048576 := Pc.oL_le xp h.reads.1.fine N
end Go.Proofs.YtekgdljbninjiaaDoor
