/-
  The document's lists of words, in memory. No walk here.
-/
import Derived.Test.YtiecpkkklefjdaaGtHfLaw
import Derived.Test.YtiecpkkklefjdaaGtHfSym
import Derived.Maps.AppendAt
namespace Go.Proofs.Ytiecpkkklefjdaa
open Go Go.RowKit

/-- Numbers in memory. -/
def iv (xs : List Nat) : List Value := xs.map fun (x : Nat) => .int .i64 (x : Int)
theorem iv_length (xs : List Nat) : (iv xs).length = xs.length := by simp [iv]
theorem iv_append (a b : List Nat) : iv (a ++ b) = iv a ++ iv b := by simp [iv]
theorem iv_get (xs : List Nat) (j : Nat) (h : j < xs.length) : (iv xs)[j]? = some (.int .i64 (gn xs j : Int)) := by simp [iv, gn, h]
/-- A list of numbers that stands. -/
def DoneL (W : World) (O B : Nat) (v : Value) (xs : List Nat) : Prop := ∃ a c, v = .slice a xs.length c ∧ (0 < xs.length → ∃ g, a = some ⟨g, 0, none⟩ ∧ g < B ∧ g ≠ O ∧ ∀ j, j < xs.length → W.cell? ⟨g, j, none⟩ = some (.int .i64 (gn xs j : Int)))
theorem DoneL.keep {W W' : World} {O B C : Nat} {v : Value} {xs : List Nat} (h : DoneL W O B v xs) (hB : B ≤ C) (hk : ∀ k, k < B → k ≠ O → W'.heap[k]? = W.heap[k]?) : DoneL W' O C v xs := by
  obtain ⟨a, c, h1, h2⟩ := h
  refine ⟨a, c, h1, fun hp => ?_⟩
  obtain ⟨g, e1, e2, e3, e4⟩ := h2 hp
  exact ⟨g, e1, by omega, e3, fun j hj => (World.cell?_of_block (a := ⟨g, j, none⟩) (hk g e2 e3)).trans (e4 j hj)⟩
theorem DoneL.of_own {W : World} {O B base : Nat} {v : Value} {xs : List Nat} (h : W.ownsRow base 3 1 v xs.length (iv xs)) (hO : O < base) (hB : W.heap.size ≤ B) : DoneL W O B v xs := by
  rcases h.2 with ⟨rfl, h0⟩ | ⟨g, cap, cur, rfl, hg, hh, hn, _, _, _⟩
  · exact ⟨none, 0, by rw [h0], fun hp => by omega⟩
  · refine ⟨_, cap, rfl, fun _ => ⟨g, rfl, ?_, by omega, fun j hj => ?_⟩⟩
    · have := (Array.getElem?_eq_some_iff.1 hh).1
      omega
    · have := h.cells (g := g) rfl j _ (iv_get xs j hj)
      rwa [add_off] at this
/-- The block with the first words and the lists. -/
structure FsOk (W : World) (O n : Nat) (V : Nat → Value) (cs : Array Value) : Prop where
  row : Row W O 71 cs
  size : cs.size = 62
  from_ : ∀ k, k < 31 → cs[k * 2]? = some (.int .u32 ((if k < n then Hf.first k else 0 : Nat) : Int))
  words : ∀ k, k < 31 → cs[k * 2 + 1]? = some (V k)
  nil : ∀ k, k < 31 → n ≤ k → V k = .slice none 0 0
def zF : Array Value := ((List.range 31).flatMap fun _ => [Value.int .u32 0, Value.slice none 0 0]).toArray
theorem two_get {α : Type} (x y : Value) (l : List α) (k : Nat) (h : k < l.length) : (l.flatMap fun _ => [x, y])[2 * k]? = some x ∧ (l.flatMap fun _ => [x, y])[2 * k + 1]? = some y := by
  induction l generalizing k with
  | nil => simp at h
  | cons a l ih =>
    cases k with
    | zero => exact ⟨rfl, rfl⟩
    | succ k =>
      obtain ⟨h1, h2⟩ := ih k (by simpa using h)
      rw [List.flatMap_cons, show 2 * (k + 1) = 2 * k + 1 + 1 by omega, show 2 * k + 1 + 1 + 1 = (2 * k + 1) + 1 + 1 by omega]
      exact ⟨h1, h2⟩
theorem zF_ok (k : Nat) (h : k < 31) : zF[k * 2]? = some (.int .u32 0) ∧ zF[k * 2 + 1]? = some (.slice none 0 0) := by
  have := two_get (.int .u32 0) (.slice none 0 0) (List.range 31) k (by simpa using h)
  unfold zF
  rw [List.getElem?_toArray, List.getElem?_toArray, Nat.mul_comm k 2]
  exact this
theorem zF_size : zF.size = 62 := by kernel_rfl
/-- What Firsts leaves. -/
structure FirstsOk (W : World) (O B : Nat) (V : Nat → Value) (cs : Array Value) : Prop where
  fs : FsOk W O 31 V cs
  lt : O < B
  le : B ≤ W.heap.size
  done_ : ∀ k, k < 31 → DoneL W O B (V k) (Hf.symAt k)
theorem FirstsOk.below {W W' : World} {O B : Nat} {V : Nat → Value} {cs : Array Value} (h : FirstsOk W O B V cs) (hb : Below B W W') : FirstsOk W' O B V cs :=
  ⟨⟨h.fs.row.below hb h.lt, h.fs.size, h.fs.from_, h.fs.words, h.fs.nil⟩, h.lt, Nat.le_trans h.le hb.size, fun k hk => (h.done_ k hk).keep (Nat.le_refl _) (fun q hq _ => hb.block q hq)⟩
end Go.Proofs.Ytiecpkkklefjdaa
