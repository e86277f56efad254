/-
  Pieces that may not be there: what both sides answer, in the same words.
-/
import Derived.Test.YtekgdljbninjiaaDoorGp7
import Derived.Test.YtekgdljbninjiaaDoorGpPcRefO
namespace Go.Proofs.YtekgdljbninjiaaDoor
open Go Go.RowKit Go.Maps Go.Shelf

namespace Pc
def oE (x : Option PS) (p n : Nat) (last : Bool) : Nat := match x with | none => 2 | some S => putE S p n last
def oPut (x : Option PS) (p : Nat) (b : List By) (last : Bool) : Option PS := match x with | none => none | some S => some (put S p b last)
def oTake (x : Option PS) (n : Nat) : Option PS := match x with | none => none | some S => some (takeS S n)
def oL (x : Option PS) (n : Nat) : List By := match x with | none => [] | some S => takeL S.f S.read n
def oEnd (x : Option PS) (n : Nat) : Bool := match x with | none => false | some S => ended (takeS S n)
def oTE (x : Option PS) : Nat := match x with | none => 2 | some _ => 0
def oRead (x : Option PS) : Nat := match x with | none => 0 | some S => S.read
def oHeld (x : Option PS) : Nat := match x with | none => 0 | some S => heldN S
def oLast (x : Option PS) : Nat := match x with | none => 0 | some S => if S.known = true then S.come else 0
def oKnown (x : Option PS) : Bool := match x with | none => false | some S => S.known
theorem oL_le (x : Option PS) (hf : ∀ S, x = some S → S.Fine) (n : Nat) : (oL x n).length ≤ 1048576 := by
  cases x with
  | none => exact Nat.zero_le _
  | some S =>
    have h := hf S rfl
    show (takeL S.f S.read n).length ≤ 1048576
    rcases Nat.eq_zero_or_pos (takeL S.f S.read n).length with e | e
    · omega
    · have h1 := lie_take S.f n S.read ((takeL S.f S.read n).length - 1) (by omega)
      have h2 := h.held _ (show S.f (S.read + ((takeL S.f S.read n).length - 1)) ≠ none by rw [h1]; simp)
      have := h.hi
      have := h.room
      omega
end Pc
/-- The pieces, if they are there. -/
def PV (w : World) (P : Option Addr) (g m : Nat) (x : Option PS) : Prop := match x with | none => P = none | some S => P = some ⟨g, 0, none⟩ ∧ PcOk w g m S
def RV (w : World) (R : Option Addr) (r gt gb : Nat) (x : Option PS) : Prop := match x with | none => R = none | some S => R = some ⟨r, 0, none⟩ ∧ RfOk w r gt gb S
def oTwo (x : Option PS) (g m : Nat) (k : Nat) : Prop := x.isSome = true ∧ Two g m k
def oThr (x : Option PS) (r gt gb : Nat) (k : Nat) : Prop := x.isSome = true ∧ Thr r gt gb k
theorem PV.fine {w : World} {P : Option Addr} {g m : Nat} {x : Option PS} (h : PV w P g m x) : ∀ S, x = some S → S.Fine := by
  rintro S rfl
  exact h.2.fine
theorem PV.keep {w w' : World} {P : Option Addr} {g m : Nat} {x : Option PS} {st : Nat → Prop} (h : PV w P g m x) (k : KeepP st w w') (hs : ∀ b, oTwo x g m b → ¬ st b) : PV w' P g m x := by
  cases x with
  | none => exact h
  | some S => exact ⟨h.1, h.2.same (k.block _ h.2.row.lt (hs g ⟨rfl, .inl rfl⟩)) (k.block _ h.2.map.lt (hs m ⟨rfl, .inr rfl⟩))⟩
theorem RV.keep {w w' : World} {R : Option Addr} {r gt gb : Nat} {x : Option PS} {st : Nat → Prop} (h : RV w R r gt gb x) (k : KeepP st w w') (hs : ∀ b, oThr x r gt gb b → ¬ st b) : RV w' R r gt gb x := by
  cases x with
  | none => exact h
  | some S => exact ⟨h.1, h.2.keepP k (fun i hi => hs i ⟨rfl, hi⟩)⟩
theorem PV.lt {w : World} {P : Option Addr} {g m : Nat} {x : Option PS} (h : PV w P g m x) : ∀ k, oTwo x g m k → k < w.heap.size := by
  rintro k ⟨hx, hk⟩
  cases x with
  | none => cases hx
  | some S =>
    rcases hk with rfl | rfl
    · exact h.2.row.lt
    · exact h.2.map.lt
theorem RV.lt {w : World} {R : Option Addr} {r gt gb : Nat} {x : Option PS} (h : RV w R r gt gb x) : ∀ k, oThr x r gt gb k → k < w.heap.size := by
  rintro k ⟨hx, hk⟩
  cases x with
  | none => cases hx
  | some S => exact h.2.lt k hk
theorem PV.below {w w' : World} {P : Option Addr} {g m : Nat} {x : Option PS} (h : PV w P g m x) (hb : Below w.heap.size w w') : PV w' P g m x := h.keep (st := fun _ => False) (KeepP.of_below hb) (fun _ _ e => e)
theorem RV.below {w w' : World} {R : Option Addr} {r gt gb : Nat} {x : Option PS} (h : RV w R r gt gb x) (hb : Below w.heap.size w w') : RV w' R r gt gb x := h.keep (st := fun _ => False) (KeepP.of_below hb) (fun _ _ e => e)

theorem put_o (x : Option PS) (P : Option Addr) (g m p : Nat) (s : SL) (last : Bool) (w : World) (h : PV w P g m x) (hs : s.Ok w) (hl : s.len ≤ 4611686018427387903) :
    Calls Tryd.prog 8 #[.pointer P, .int .u64 (p : Int), .slice s.a s.len s.cap, .bool last] w fun e w' => e = .returned (.int .i64 (Pc.oE x p s.len last : Int)) ∧ PV w' P g m (Pc.oPut x p s.b last) ∧ KeepP (oTwo x g m) w w' := by
  cases x with
  | none =>
    obtain rfl : P = none := h
    refine (put_nil w p s.a s.len s.cap last).mono ?_
    rintro e w' ⟨rfl, rfl⟩
    exact ⟨rfl, rfl, KeepP.refl _ _⟩
  | some S =>
    obtain ⟨rfl, h⟩ := h
    refine (put_any S g m p s last w h hs hl).mono ?_
    rintro e w' ⟨rfl, h1, h2⟩
    exact ⟨rfl, ⟨rfl, h1⟩, h2.weak (fun k _ e => ⟨rfl, e⟩)⟩
theorem take_o (x : Option PS) (P : Option Addr) (g m N : Nat) (w : World) (h : PV w P g m x) (hN : N ≤ 9223372036854775807) :
    Calls Tryd.prog 11 #[.pointer P, .int .i64 (N : Int)] w fun e w' => ∃ v, e = .returned (.tuple #[v, .bool (Pc.oEnd x N), .int .i64 (Pc.oTE x : Int)]) ∧ w'.ownsRow w.heap.size 5 1 v (Pc.oL x N).length (vb (Pc.oL x N)) ∧ PV w' P g m (Pc.oTake x N) ∧ KeepP (oTwo x g m) w w' := by
  cases x with
  | none =>
    obtain rfl : P = none := h
    refine (take_nil (N : Int) w).mono ?_
    rintro e w' ⟨rfl, hb⟩
    exact ⟨_, rfl, ⟨rfl, .inl ⟨rfl, rfl⟩⟩, rfl, KeepP.of_below hb⟩
  | some S =>
    obtain ⟨rfl, h⟩ := h
    refine (take_yes S g m N w h hN).mono ?_
    rintro e w' ⟨v, rfl, h1, h2, h3⟩
    exact ⟨v, rfl, h1, ⟨rfl, h2⟩, h3.weak (fun k _ e => ⟨rfl, e⟩)⟩
theorem end_o (x : Option PS) (P : Option Addr) (g m : Nat) (w : World) (h : PV w P g m x) :
    Calls Tryd.prog 15 #[.pointer P] w fun e w' => e = .returned (.tuple #[.int .u64 (Pc.oLast x : Int), .bool (Pc.oKnown x)]) ∧ Below w.heap.size w w' := by
  cases x with
  | none =>
    obtain rfl : P = none := h
    refine (end_nil w).mono ?_
    rintro e w' ⟨rfl, rfl⟩
    exact ⟨rfl, Below.refl _ _⟩
  | some S =>
    obtain ⟨rfl, h⟩ := h
    exact end_any w g m S h
theorem read_o (x : Option PS) (P : Option Addr) (g m : Nat) (w : World) (h : PV w P g m x) :
    Calls Tryd.prog 17 #[.pointer P] w fun e w' => e = .returned (.int .u64 (Pc.oRead x : Int)) ∧ w' = w := by
  cases x with
  | none =>
    obtain rfl : P = none := h
    exact read_nil w
  | some S =>
    obtain ⟨rfl, h⟩ := h
    exact pcread_any S g m w h
theorem held_o (x : Option PS) (P : Option Addr) (g m : Nat) (w : World) (h : PV w P g m x) :
    Calls Tryd.prog 19 #[.pointer P] w fun e w' => e = .returned (.int .i64 (Pc.oHeld x : Int)) ∧ w' = w := by
  cases x with
  | none =>
    obtain rfl : P = none := h
    exact held_nil w
  | some S =>
    obtain ⟨rfl, h⟩ := h
    exact pcheld_any S g m w h
/-- Where the document's pieces went. -/
def RNext (w : World) (x : Option PS) (r gt gb gt' gb' : Nat) : Prop := ∀ k, oThr x r gt' gb' k → oThr x r gt gb k ∨ w.heap.size ≤ k
theorem rput_o (x : Option PS) (R : Option Addr) (r gt gb p : Nat) (s : SL) (last : Bool) (w : World) (h : RV w R r gt gb x) (hs : s.Ok w) (hsep : 0 < s.len → ¬ oThr x r gt gb s.g) (hl : s.len ≤ 4611686018427387903) :
    Calls Tryd.prog 9 #[.pointer R, .int .u64 (p : Int), .slice s.a s.len s.cap, .bool last] w fun e w' => e = .returned (.int .i64 (Pc.oE x p s.len last : Int)) ∧ (∃ gt' gb', RV w' R r gt' gb' (Pc.oPut x p s.b last) ∧ RNext w x r gt gb gt' gb') ∧ KeepP (oThr x r gt gb) w w' := by
  cases x with
  | none =>
    obtain rfl : R = none := h
    refine (rput_nil w p s.a s.len s.cap last).mono ?_
    rintro e w' ⟨rfl, rfl⟩
    exact ⟨rfl, ⟨gt, gb, rfl, fun k e => .inl e⟩, KeepP.refl _ _⟩
  | some S =>
    obtain ⟨rfl, h⟩ := h
    refine (rput_any S r gt gb p s last w h hs (fun q e => hsep q ⟨rfl, e⟩) hl).mono ?_
    rintro e w' ⟨rfl, ⟨gt', gb', h1, h2, h3⟩, h4⟩
    refine ⟨rfl, ⟨gt', gb', ⟨rfl, h1⟩, ?_⟩, h4.weak (fun k _ e => ⟨rfl, e⟩)⟩
    rintro k ⟨_, rfl | rfl | rfl⟩
    · exact .inl ⟨rfl, .inl rfl⟩
    · rcases h2 with e | e
      · exact .inl ⟨rfl, .inr (.inl e)⟩
      · exact .inr e
    · rcases h3 with e | e
      · exact .inl ⟨rfl, .inr (.inr e)⟩
      · exact .inr e
theorem rtake_o (x : Option PS) (R : Option Addr) (r gt gb N : Nat) (w : World) (h : RV w R r gt gb x) (hN : N ≤ 9223372036854775807) :
    Calls Tryd.prog 12 #[.pointer R, .int .i64 (N : Int)] w fun e w' => ∃ v, e = .returned (.tuple #[v, .bool (Pc.oEnd x N), .int .i64 (Pc.oTE x : Int)]) ∧ w'.ownsRow w.heap.size 5 1 v (Pc.oL x N).length (vb (Pc.oL x N)) ∧ (∃ gt' gb', RV w' R r gt' gb' (Pc.oTake x N) ∧ RNext w x r gt gb gt' gb') ∧ KeepP (oThr x r gt gb) w w' := by
  cases x with
  | none =>
    obtain rfl : R = none := h
    refine (rtake_nil w (N : Int)).mono ?_
    rintro e w' ⟨rfl, rfl⟩
    exact ⟨_, rfl, ⟨rfl, .inl ⟨rfl, rfl⟩⟩, ⟨gt, gb, rfl, fun k e => .inl e⟩, KeepP.refl _ _⟩
  | some S =>
    obtain ⟨rfl, h⟩ := h
    refine (rtake_yes S r gt gb N w h hN).mono ?_
    rintro e w' ⟨v, rfl, h1, ⟨gt', gb', h2, h3, h4⟩, h5⟩
    refine ⟨v, rfl, h1, ⟨gt', gb', ⟨rfl, h2⟩, ?_⟩, h5.weak (fun k _ e => ⟨rfl, .inl e⟩)⟩
    rintro k ⟨_, rfl | rfl | rfl⟩
    · exact .inl ⟨rfl, .inl rfl⟩
    · rcases h3 with e | e
      · exact .inl ⟨rfl, .inr (.inl e)⟩
      · exact .inl ⟨rfl, .inl e⟩
    · rcases h4 with e | e
      · exact .inl ⟨rfl, .inr (.inr e)⟩
      · exact .inl ⟨rfl, .inl e⟩
theorem rend_o (x : Option PS) (R : Option Addr) (r gt gb : Nat) (w : World) (h : RV w R r gt gb x) :
    Calls Tryd.prog 16 #[.pointer R] w fun e w' => e = .returned (.tuple #[.int .u64 (Pc.oLast x : Int), .bool (Pc.oKnown x)]) ∧ Below w.heap.size w w' := by
  cases x with
  | none =>
    obtain rfl : R = none := h
    refine (rend_nil w).mono ?_
    rintro e w' ⟨rfl, rfl⟩
    exact ⟨rfl, Below.refl _ _⟩
  | some S =>
    obtain ⟨rfl, h⟩ := h
    exact rend_any S r gt gb w h
theorem rread_o (x : Option PS) (R : Option Addr) (r gt gb : Nat) (w : World) (h : RV w R r gt gb x) :
    Calls Tryd.prog 18 #[.pointer R] w fun e w' => e = .returned (.int .u64 (Pc.oRead x : Int)) ∧ w' = w := by
  cases x with
  | none =>
    obtain rfl : R = none := h
    exact rread_nil w
  | some S =>
    obtain ⟨rfl, h⟩ := h
    exact rread_any S r gt gb w h
theorem rheld_o (x : Option PS) (R : Option Addr) (r gt gb : Nat) (w : World) (h : RV w R r gt gb x) :
    Calls Tryd.prog 20 #[.pointer R] w fun e w' => e = .returned (.int .i64 (Pc.oHeld x : Int)) ∧ w' = w := by
  cases x with
  | none =>
    obtain rfl : R = none := h
    exact rheld_nil w
  | some S =>
    obtain ⟨rfl, h⟩ := h
    exact rheld_any S r gt gb w h
end Go.Proofs.YtekgdljbninjiaaDoor
