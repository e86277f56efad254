/-
  A Book that is told one list of bytes after another. Written out of KyTell.
-/
import Derived.Test.YtjccjlhnjihfjaaDoorGh6
namespace Go.Proofs.YtjccjlhnjihfjaaDoor
open Go Go.RowKit

abbrev LV := List (Value × Nat)
def eL (L : LV) : Nat → Value := fun i => (L.getD i (.slice none 0 0, 0)).1
def nL (L : LV) : Nat → Nat := fun i => (L.getD i (.slice none 0 0, 0)).2
theorem eL_snoc (L : LV) (l : Value) (n : Nat) : eL (L ++ [(l, n)]) = upd (eL L) L.length l := by
  funext i
  unfold upd eL
  simp only [List.getD_eq_getElem?_getD]
  by_cases h : i = L.length
  · subst h; simp
  · rw [if_neg h]
    rcases Nat.lt_or_gt_of_ne h with q | q
    · rw [List.getElem?_append_left q]
    · rw [List.getElem?_eq_none (by simp; omega), List.getElem?_eq_none (by omega)]
theorem nL_snoc (L : LV) (l : Value) (n : Nat) : nL (L ++ [(l, n)]) = upd (nL L) L.length n := by
  funext i
  unfold upd nL
  simp only [List.getD_eq_getElem?_getD]
  by_cases h : i = L.length
  · subst h; simp
  · rw [if_neg h]
    rcases Nat.lt_or_gt_of_ne h with q | q
    · rw [List.getElem?_append_left q]
    · rw [List.getElem?_eq_none (by simp; omega), List.getElem?_eq_none (by omega)]
theorem eL_mem (L : LV) (i : Nat) (h : i < L.length) : ∃ p ∈ L, eL L i = p.1 ∧ nL L i = p.2 := by
  refine ⟨L[i], List.getElem_mem h, ?_, ?_⟩
  · unfold eL; simp [List.getD_eq_getElem?_getD, h]
  · unfold nL; simp [List.getD_eq_getElem?_getD, h]
/-- A book that was told these lists; its entries do not lie in block k. -/
def KBX (S B : Nat) (w0 : World) (L : LV) (k : Nat) (W : World) : Prop := ∃ V X, Bk S B L.length L.length V (eL L) (nL L) X w0 W ∧ V.ownBlock ≠ some k
/-- A book that was told these lists. -/
def KB (S B : Nat) (w0 : World) (L : LV) (W : World) : Prop := ∃ V X, Bk S B L.length L.length V (eL L) (nL L) X w0 W
theorem Holds.refl (S B : Nat) (W : World) : Holds S B W W := fun _ _ _ h _ => h
theorem Holds.trans {S B : Nat} {A C D : World} (h : Holds S B A C) (k : Holds S B C D) : Holds S B A D := fun v n xs h1 h2 => k v n xs (h v n xs h1 h2) h2
theorem Holds.alloc (S B : Nat) (W : World) (o : Obj) : Holds S B W (W.alloc o) := fun _ _ _ h _ => h.alloc o
def bookZ : Array Value := #[.int .i64 0, .slice none 0 0, .slice none 0 0, .slice none 0 0, .slice none 0 0, .slice none 0 0, .slice none 0 0, .slice none 0 0, .slice none 0 0, .slice none 0 0, .slice none 0 0, .slice none 0 0, .slice none 0 0]
theorem KB.new (S : Nat) (w0 W : World) (hS : S ≤ W.heap.size) (hb : Below S w0 W) (t : TypeId) : KB S W.heap.size w0 [] (W.alloc (.cells bookZ t)) :=
  ⟨_, fun _ => [], Bk.new S _ _ _ w0 W hS hb t⟩
theorem KBX.kb {S B k : Nat} {w0 W : World} {L : LV} (h : KBX S B w0 L k W) : KB S B w0 L W := by
  obtain ⟨V, X, bk, _⟩ := h
  exact ⟨V, X, bk⟩
/-- One list more. -/
theorem KBX.tell {S B k : Nat} {w0 W : World} {L : LV} (kb : KBX S B w0 L k W) (hk : k < W.heap.size) (hkB : k ≠ B) (l : Value) (nl : Nat) (xl : List Value) (hm : L.length ≤ 1000) (hl : RowW W S 5 1 l nl xl) (hlB : ∀ k, l.ownBlock = some k → k < B) (hle : ∀ p ∈ L, p.1.ownBlock = none ∨ p.1.ownBlock ≠ l.ownBlock) :
    Calls Tryd.prog 11 #[.pointer (some ⟨B, 0, none⟩), l] W fun e w' => e = .returned (.tuple #[]) ∧ KBX S B w0 (L ++ [(l, nl)]) k w' ∧ Holds S B W w' ∧ w'.heap[k]? = W.heap[k]? := by
  obtain ⟨V, X, bk, hV⟩ := kb
  refine (bytes_any S B L.length V (eL L) (nL L) X w0 W l nl xl hm bk hl hlB (fun i hi => ?_)).mono ?_
  · obtain ⟨p, hp, e, _⟩ := eL_mem L i hi
    rw [e]
    exact hle p hp
  · rintro e w' ⟨rfl, V', bk', hh, ha⟩
    refine ⟨rfl, ⟨V', upd X L.length xl, ?_, (ha k hk hkB hV).2⟩, hh, (ha k hk hkB hV).1⟩
    rw [eL_snoc, nL_snoc, List.length_append]
    exact bk'
theorem KB.tell {S B : Nat} {w0 W : World} {L : LV} (kb : KB S B w0 L W) (l : Value) (nl : Nat) (xl : List Value) (hm : L.length ≤ 1000) (hl : RowW W S 5 1 l nl xl) (hlB : ∀ k, l.ownBlock = some k → k < B) (hle : ∀ p ∈ L, p.1.ownBlock = none ∨ p.1.ownBlock ≠ l.ownBlock) :
    Calls Tryd.prog 11 #[.pointer (some ⟨B, 0, none⟩), l] W fun e w' => e = .returned (.tuple #[]) ∧ KB S B w0 (L ++ [(l, nl)]) w' ∧ Holds S B W w' := by
  obtain ⟨V, X, bk⟩ := kb
  refine (bytes_any S B L.length V (eL L) (nL L) X w0 W l nl xl hm bk hl hlB (fun i hi => ?_)).mono ?_
  · obtain ⟨p, hp, e, _⟩ := eL_mem L i hi
    rw [e]
    exact hle p hp
  · rintro e w' ⟨rfl, V', bk', hh, _⟩
    refine ⟨rfl, ⟨V', upd X L.length xl, ?_⟩, hh⟩
    rw [eL_snoc, nL_snoc, List.length_append]
    exact bk'
theorem KB.apart {S B : Nat} {w0 W : World} {L : LV} (kb : KB S B w0 L W) (h0 : 0 < L.length) (hm : L.length ≤ 1000) (hN : ∀ p ∈ L, p.2 ≤ 140737488351240) :
    Calls Tryd.prog 13 #[.pointer (some ⟨B, 0, none⟩)] W fun e w' => e = .returned (.bool true) ∧ Below S w0 w' := by
  obtain ⟨V, X, bk⟩ := kb
  exact apart_book S B L.length V (eL L) (nL L) X w0 W h0 hm (fun i hi => by
    obtain ⟨p, hp, _, e⟩ := eL_mem L i hi
    rw [e]
    exact hN p hp) bk
theorem KB.bel {S B : Nat} {w0 W : World} {L : LV} (kb : KB S B w0 L W) : Below S w0 W ∧ B < W.heap.size ∧ S ≤ B := by
  obtain ⟨V, X, bk⟩ := kb
  exact ⟨bk.below, bk.bB, bk.SB⟩

end Go.Proofs.YtjccjlhnjihfjaaDoor
