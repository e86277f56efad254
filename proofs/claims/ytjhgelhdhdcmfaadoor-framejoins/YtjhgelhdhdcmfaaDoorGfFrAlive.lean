/-
  The law's alive: answers that the document fixes.
-/
import Derived.Test.YtjhgelhdhdcmfaaDoorGfFrAliveP
namespace Go.Proofs.YtjhgelhdhdcmfaaDoor
open Go Go.RowKit

theorem put_one (g : Nat) (f : FrM) (W : World) (r : Row W g 39 f.cells) (ok : f.Ok W) (hd : f.data.len ≤ 4000000) (hL : Lens W) (hN : Named W) :
    Calls Tryd.prog 10 #[.slice (some ⟨g, 0, none⟩) 1 1] W fun e w' => ∃ s : SL, e = .returned (.tuple #[.slice s.a s.len s.cap, .int .i64 (putE [f.fr] : Int)]) ∧ s.len = (putO [f.fr]).length ∧ s.b = putO [f.fr] ∧ s.Ok w' ∧ s.Told ∧ Below W.heap.size W w' := by
  refine (fr_put (fs1 g f) W (fs1_ok r ok) (show (1 : Nat) ≤ 8388608 by decide) (fun j hj => ?_) hL hN).mono ?_
  · obtain rfl : j = 0 := by have : j < 1 := hj; omega
    exact hd
  · rintro e w' ⟨v, he, hrow, hb⟩
    obtain ⟨s, rfl, hl, hsb, hok, ht⟩ := SL.of_row hrow
    exact ⟨s, he, hl, hsb, hok, ht, hb⟩
theorem get_row (g n : Nat) (b : List By) (t : TypeId) (W : World) (r : Row W g t (bs b)) (hn : b.length = n) (hL : Lens W) :
    Calls Tryd.prog 11 #[.slice (some ⟨g, 0, none⟩) n n] W fun x w' => GetPost W b x w' ∧ Below W.heap.size W w' :=
  get_any7 (rowN g n b) W (rowN_ok r hn) (fun _ _ hp => (Option.some.inj hp).symm) hL
theorem get_bad (g n : Nat) (b : List By) (e : Nat) (t : TypeId) (W : World) (r : Row W g t (bs b)) (hn : b.length = n) (hL : Lens W) (he : Fr.getAll b = .error e) :
    Calls Tryd.prog 11 #[.slice (some ⟨g, 0, none⟩) n n] W fun x w' => x = .returned (.tuple #[.slice none 0 0, .int .i64 (e : Int)]) ∧ Below W.heap.size W w' := by
  refine (get_row g n b t W r hn hL).mono ?_
  rintro x w' ⟨⟨e', h1, h2⟩ | ⟨fs, h1, _⟩, hb⟩
  · rw [he] at h1
    injection h1 with h1
    subst h1
    exact ⟨h2, hb⟩
  · rw [he] at h1
    cases h1
/-- The two frames of alive's bytes. -/
theorem get_two (g : Nat) (t : TypeId) (W : World) (r : Row W g t (bs [1, 0, 0, 0])) (hL : Lens W) :
    Calls Tryd.prog 11 #[.slice (some ⟨g, 0, none⟩) 4 4] W fun x w' => (∃ (G off c : Nat) (F0 F1 : FrM), x = .returned (.tuple #[.slice (some ⟨G, off, none⟩) 2 c, .int .i64 0]) ∧ F0.fr = ⟨2, 0, 0, 0, 0, false, [], []⟩ ∧ F1.fr = ⟨1, 0, 0, 3, 0, false, [], []⟩ ∧ G < w'.heap.size ∧ w'.rangeAt G off F0.cells.toList ∧ w'.rangeAt G (off + 8) F1.cells.toList) ∧ Below W.heap.size W w' := by
  refine (get_row g 4 [1, 0, 0, 0] t W r rfl hL).mono ?_
  rintro x w' ⟨⟨e', h1, h2⟩ | ⟨fs, h1, h2, h3, _⟩, hb⟩
  · rw [a_g1] at h1
    cases h1
  · rw [a_g1] at h1
    injection h1 with h1
    obtain ⟨a, len, cap, G, off, l⟩ := fs
    have hm : l.map FrM.fr = [⟨2, 0, 0, 0, 0, false, [], []⟩, ⟨1, 0, 0, 3, 0, false, [], []⟩] := h1.symm
    clear h1
    obtain ⟨F0, l1, rfl, e0, hm1⟩ := List.map_eq_cons_iff.1 hm
    obtain ⟨F1, l2, rfl, e1, hm2⟩ := List.map_eq_cons_iff.1 hm1
    obtain rfl := List.map_eq_nil_iff.1 hm2
    have hl : len = 2 := h3.hb.symm
    subst hl
    have ha : a = some ⟨G, off, none⟩ := h3.at_ (show 0 < 2 by decide)
    subst ha
    have c0 : w'.rangeAt G (off + 0 * 8) F0.cells.toList := h3.cell 0 (show 0 < 2 by decide)
    have c1 : w'.rangeAt G (off + 1 * 8) F1.cells.toList := h3.cell 1 (show 1 < 2 by decide)
    exact ⟨⟨G, off, cap, F0, F1, h2, e0, e1, h3.lt (show 0 < 2 by decide), c0, c1⟩, hb⟩
end Go.Proofs.YtjhgelhdhdcmfaaDoor
