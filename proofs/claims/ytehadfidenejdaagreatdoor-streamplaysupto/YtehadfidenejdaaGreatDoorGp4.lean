/-
  Out of BwHold, BkByF.
-/
import Derived.Test.YtehadfidenejdaaGreatDoorGp3
import Derived.Test.YtehadfidenejdaaGreatDoorGp2
import Derived.RangeFuncBox
import Derived.Deep.RegionHeld3
import Derived.Maps.AppendAt
import Derived.ArgAppend
import Derived.BigQuiet
import Derived.Deep.AppendLies
import Derived.Deep.RegionLaw
import Derived.BigRegion

/-! What a Book holds of one kind of lists while it is told, older or newer than it. Written by mkbw.py. -/
namespace Go.Proofs.YtehadfidenejdaaGreatDoor.Bw
open Go Go.RowKit
open Go.Proofs.YtehadfidenejdaaGreatDoor.Bq (OwnB own_keepP below_keepP keep_grown keep_below Sep)

/-- What telling a list leaves: the count, the longer list of entries, and all else as it was. -/
structure Told (S B j HT nn m : Nat) (V l : Value) (es : List Value) (W W' : World) (g c : Nat) : Prop where
  n : W'.cell? ⟨B, 0, none⟩ = some (.int .i64 ((nn : Int) + 1))
  b : W'.cell? ⟨B, j, none⟩ = some (.slice (some ⟨g, 0, none⟩) (m + 1) c)
  oth : ∀ q, q ≠ 0 → q ≠ j → W'.cell? ⟨B, q, none⟩ = W.cell? ⟨B, q, none⟩
  fz : ∀ q, W'.frozen? ⟨B, q, none⟩ = W.frozen? ⟨B, q, none⟩
  ent : W'.ownsRow S HT 3 (.slice (some ⟨g, 0, none⟩) (m + 1) c) (m + 1) (es ++ [l, .slice none 0 0, .int .i64 ((nn : Int) + 1)])
  at_ : V.ownBlock = some g ∨ W.heap.size ≤ g
  keep : KeepP (fun b => b = B ∨ V.ownBlock = some b) W W'
theorem told_of {S B j HT nn m : Nat} {V l : Value} {es : List Value} {W w1 : World} {g c : Nat} (hj : j ≠ 0) (hbB : B < W.heap.size) (hn : W.cell? ⟨B, 0, none⟩ = some (.int .i64 (nn : Int))) (hb : W.cell? ⟨B, j, none⟩ = some V) (hVB : ∀ k, V.ownBlock = some k → B < k)
    (hgr : (W.setCell ⟨B, 0, none⟩ (.int .i64 ((nn : Int) + 1))).grownBy w1 V.ownBlock) (hat : V.ownBlock = some g ∨ g = W.heap.size + 1) (hown : w1.ownsRow S HT 3 (.slice (some ⟨g, 0, none⟩) (m + 1) c) (m + 1) (es ++ [l, .slice none 0 0, .int .i64 ((nn : Int) + 1)])) :
    Told S B j HT nn m V l es W (w1.setCell ⟨B, j, none⟩ (.slice (some ⟨g, 0, none⟩) (m + 1) c)) g c := by
  have hV : some B ≠ V.ownBlock := fun e => by have := hVB B e.symm; omega
  have hB1 : B < (W.setCell ⟨B, 0, none⟩ (.int .i64 ((nn : Int) + 1))).heap.size := by simpa using hbB
  have hblk := hgr.block B hB1 hV
  have hgr2 : w1.grownBy (w1.setCell ⟨B, j, none⟩ (.slice (some ⟨g, 0, none⟩) (m + 1) c)) (some B) := ⟨rfl, rfl, rfl, by simp, fun b _ hb => Below.heap_setCell _ _ _ b (fun e => hb (by rw [e]))⟩
  have hgB : g ≠ B := fun e => by
    rcases hat with h | h
    · have := hVB g h; omega
    · omega
  have c0 : w1.cell? ⟨B, 0, none⟩ = some (.int .i64 ((nn : Int) + 1)) := (World.cell?_of_block (a := ⟨B, 0, none⟩) hblk).trans (World.cell?_setCell_same _ _ _ hn)
  have cq : ∀ q, q ≠ 0 → w1.cell? ⟨B, q, none⟩ = W.cell? ⟨B, q, none⟩ := fun q hq => by
    refine (World.cell?_of_block (a := ⟨B, q, none⟩) hblk).trans ?_
    rw [World.cell?_setCell_other _ _ _ _ (by intro e; injection e; omega)]
  refine ⟨?_, World.cell?_setCell_same _ _ _ ((cq j hj).trans hb), fun q h1 h2 => ?_, fun q => ?_, hown.kept hgr2 (.inr ?_), ?_, ⟨?_, ?_, ?_, ?_, fun b hb hn => ?_⟩⟩
  · rw [World.cell?_setCell_other _ _ _ _ (by intro e; injection e; omega)]; exact c0
  · rw [World.cell?_setCell_other _ _ _ _ (by intro e; injection e; omega)]; exact cq q h1
  · rw [World.frozen?_setCell]
    refine (World.frozen?_of_block (a := ⟨B, q, none⟩) hblk).trans ?_
    rw [World.frozen?_setCell]
  · intro e; injection e with e; exact hgB e
  · rcases hat with h | h
    · exact .inl h
    · exact .inr (by omega)
  · exact hgr.os
  · exact hgr.tape
  · exact hgr.output
  · have := hgr.size
    simp at this ⊢
    exact this
  · rw [Below.heap_setCell _ _ _ b (fun e => hn (.inl e)), hgr.block b (by simpa using hb) (fun e => hn (.inr e.symm)), Below.heap_setCell _ _ _ b (fun e => hn (.inl e))]

/-- The entries, one behind the other, with their numbers. -/
def entsN (E : Nat → Value) (nu : Nat → Nat) : Nat → List Value
  | 0 => []
  | m + 1 => entsN E nu m ++ [E m, .slice none 0 0, .int .i64 (nu m : Int)]
theorem entsN_length (E : Nat → Value) (nu : Nat → Nat) : ∀ m, (entsN E nu m).length = m * 3
  | 0 => rfl
  | m + 1 => by rw [entsN, List.length_append, entsN_length E nu m]; simp; omega
theorem entsN_at (E : Nat → Value) (nu : Nat → Nat) : ∀ m i, i < m → (entsN E nu m)[i * 3]? = some (E i) ∧ (entsN E nu m)[i * 3 + 1]? = some (.slice none 0 0) ∧ (entsN E nu m)[i * 3 + 2]? = some (.int .i64 (nu i : Int))
  | 0, i, h => absurd h (Nat.not_lt_zero _)
  | m + 1, i, h => by
    rw [entsN]
    have hl := entsN_length E nu m
    by_cases him : i < m
    · obtain ⟨h1, h2, h3⟩ := entsN_at E nu m i him
      rw [List.getElem?_append_left (by omega), List.getElem?_append_left (by omega), List.getElem?_append_left (by omega)]
      exact ⟨h1, h2, h3⟩
    · have him2 : i = m := by omega
      subst him2
      rw [List.getElem?_append_right (by omega), List.getElem?_append_right (by omega), List.getElem?_append_right (by omega), hl, Nat.sub_self, Nat.add_sub_cancel_left, Nat.add_sub_cancel_left]
      exact ⟨rfl, rfl, rfl⟩
theorem entsN_congr {E F : Nat → Value} {nu mu : Nat → Nat} : ∀ m, (∀ i, i < m → E i = F i ∧ nu i = mu i) → entsN E nu m = entsN F mu m
  | 0, _ => rfl
  | m + 1, h => by rw [entsN, entsN, entsN_congr m (fun i hi => h i (by omega)), (h m (by omega)).1, (h m (by omega)).2]
/-- One more is told. -/
def upd {α : Type} (f : Nat → α) (m : Nat) (x : α) : Nat → α := fun i => if i = m then x else f i
theorem upd_at {α : Type} (f : Nat → α) (m : Nat) (x : α) : upd f m x m = x := if_pos rfl
theorem upd_lt {α : Type} (f : Nat → α) {m i : Nat} (x : α) (h : i < m) : upd f m x i = f i := if_neg (by omega)

/-- What the book in block B holds of one kind: its cell j, m entries, the lists, older or newer than the book. -/
structure Hd (S B j HT T z m : Nat) (V : Value) (E : Nat → Value) (nu N : Nat → Nat) (F : Nat → List Value) (W : World) : Prop where
  b : W.cell? ⟨B, j, none⟩ = some V
  nil : m = 0 → V = .slice none 0 0
  ent : W.ownsRow S HT 3 V m (entsN E nu m)
  vB : ∀ k, V.ownBlock = some k → B < k
  rows : ∀ i, i < m → W.ownsRow S T z (E i) (N i) (F i)
  eB : ∀ i, i < m → ∀ k, (E i).ownBlock = some k → k ≠ B ∧ V.ownBlock ≠ some k
  ee : ∀ i j, i < m → j < m → i ≠ j → (E i).ownBlock = none ∨ (E i).ownBlock ≠ (E j).ownBlock
section
variable {S B j HT T z m nn nl : Nat} {V l : Value} {E : Nat → Value} {nu N : Nat → Nat} {F : Nat → List Value} {xl : List Value} {W W' : World} {g c : Nat}
/-- A list of this kind was told. -/
theorem Hd.told (h : Hd S B j HT T z m V E nu N F W) (hbB : B < W.heap.size) (t : Told S B j HT nn m V l (entsN E nu m) W W' g c) (hl : W.ownsRow S T z l nl xl) (hlB : ∀ k, l.ownBlock = some k → k ≠ B ∧ V.ownBlock ≠ some k) (hle : ∀ i, i < m → (E i).ownBlock = none ∨ (E i).ownBlock ≠ l.ownBlock) :
    Hd S B j HT T z (m + 1) (.slice (some ⟨g, 0, none⟩) (m + 1) c) (upd E m l) (upd nu m (nn + 1)) (upd N m nl) (upd F m xl) W' := by
  have low : ∀ k, k ≠ B ∧ V.ownBlock ≠ some k → ¬ (k = B ∨ V.ownBlock = some k) := fun k hk e => by
    rcases e with e | e
    · exact hk.1 e
    · exact hk.2 e
  have gnew : ∀ k, k < W.heap.size → V.ownBlock ≠ some k → (Value.slice (some ⟨g, 0, none⟩) (m + 1) c).ownBlock ≠ some k := fun k h1 h2 e => by
    injection e with e
    have e2 : g = k := e
    rcases t.at_ with q | q
    · exact h2 (e2 ▸ q)
    · omega
  refine ⟨t.b, fun e => absurd e (Nat.succ_ne_zero _), ?_, fun k e => ?_, fun i hi => ?_, fun i hi k e => ?_, fun i q hi hq hiq => ?_⟩
  · have e : entsN (upd E m l) (upd nu m (nn + 1)) (m + 1) = entsN E nu m ++ [l, .slice none 0 0, .int .i64 ((nn : Int) + 1)] := by
      rw [entsN, upd_at, upd_at, entsN_congr m (F := E) (mu := nu) (fun i hi => ⟨upd_lt E l hi, upd_lt nu _ hi⟩)]
      rfl
    rw [e]
    exact t.ent
  · injection e with e
    have e2 : g = k := e
    rcases t.at_ with h1 | h1
    · have := h.vB g h1; omega
    · omega
  · by_cases him : i = m
    · rw [him, upd_at, upd_at, upd_at]; exact own_keepP hl t.keep (fun b e => low b (hlB b e))
    · rw [upd_lt E l (by omega), upd_lt N nl (by omega), upd_lt F xl (by omega)]; exact own_keepP (h.rows i (by omega)) t.keep (fun b e => low b (h.eB i (by omega) b e))
  · by_cases him : i = m
    · rw [him, upd_at] at e; exact ⟨(hlB k e).1, gnew k (hl.lt k e).2 (hlB k e).2⟩
    · rw [upd_lt E l (by omega)] at e; exact ⟨(h.eB i (by omega) k e).1, gnew k ((h.rows i (by omega)).lt k e).2 (h.eB i (by omega) k e).2⟩
  · by_cases him : i = m
    · by_cases hqm : q = m
      · omega
      · rw [him, upd_at, upd_lt E l (by omega)]
        cases hlo : l.ownBlock with
        | none => exact .inl rfl
        | some k =>
          right
          rcases hle q (by omega) with h1 | h1
          · rw [h1]; simp
          · rw [hlo] at h1; exact fun e => h1 e.symm
    · rw [upd_lt E l (by omega)]
      by_cases hqm : q = m
      · rw [hqm, upd_at]; exact hle i (by omega)
      · rw [upd_lt E l (by omega)]; exact h.ee i q (by omega) (by omega) hiq
end
theorem new_cell (W : World) (t : TypeId) : ∀ j, 1 ≤ j → j < 13 → (W.alloc (.cells #[.int .i64 0, .slice none 0 0, .slice none 0 0, .slice none 0 0, .slice none 0 0, .slice none 0 0, .slice none 0 0, .slice none 0 0, .slice none 0 0, .slice none 0 0, .slice none 0 0, .slice none 0 0, .slice none 0 0] t)).cell? ⟨W.heap.size, j, none⟩ = some (.slice none 0 0) := fun j h1 h2 => by
  have : j = 1 ∨ j = 2 ∨ j = 3 ∨ j = 4 ∨ j = 5 ∨ j = 6 ∨ j = 7 ∨ j = 8 ∨ j = 9 ∨ j = 10 ∨ j = 11 ∨ j = 12 := by omega
  rcases this with rfl | rfl | rfl | rfl | rfl | rfl | rfl | rfl | rfl | rfl | rfl | rfl <;> simp
theorem new_count (W : World) (t : TypeId) : (W.alloc (.cells #[.int .i64 0, .slice none 0 0, .slice none 0 0, .slice none 0 0, .slice none 0 0, .slice none 0 0, .slice none 0 0, .slice none 0 0, .slice none 0 0, .slice none 0 0, .slice none 0 0, .slice none 0 0, .slice none 0 0] t)).cell? ⟨W.heap.size, 0, none⟩ = some (.int .i64 ((0 : Nat) : Int)) := by simp
theorem new_frozen (W : World) (t : TypeId) (j : Nat) : (W.alloc (.cells #[.int .i64 0, .slice none 0 0, .slice none 0 0, .slice none 0 0, .slice none 0 0, .slice none 0 0, .slice none 0 0, .slice none 0 0, .slice none 0 0, .slice none 0 0, .slice none 0 0, .slice none 0 0, .slice none 0 0] t)).frozen? ⟨W.heap.size, j, none⟩ = false := World.frozen?_alloc_new _ _ _ _
/-- An empty book holds nothing of any kind. -/
theorem Hd.new (S : Nat) (W : World) (t : TypeId) (j HT T z : Nat) (h1 : 1 ≤ j) (h2 : j < 13) (E : Nat → Value) (nu N : Nat → Nat) (F : Nat → List Value) : Hd S W.heap.size j HT T z 0 (.slice none 0 0) E nu N F (W.alloc (.cells #[.int .i64 0, .slice none 0 0, .slice none 0 0, .slice none 0 0, .slice none 0 0, .slice none 0 0, .slice none 0 0, .slice none 0 0, .slice none 0 0, .slice none 0 0, .slice none 0 0, .slice none 0 0, .slice none 0 0] t)) :=
  ⟨new_cell W t j h1 h2, fun _ => rfl, World.ownsRow_nil _ _ _ _, fun k e => (by cases e), fun i hi => absurd hi (Nat.not_lt_zero _), fun i hi => absurd hi (Nat.not_lt_zero _), fun i j hi => absurd hi (Nat.not_lt_zero _)⟩


theorem pick_all {α : Type} [Inhabited α] {Pr : Nat → α → Prop} {m : Nat} (h : ∀ i, i < m → ∃ a, Pr i a) : ∃ Y : Nat → α, ∀ i, i < m → Pr i (Y i) :=
  ⟨fun i => if h2 : i < m then (h i h2).choose else default, fun i hi => by simp only [dif_pos hi]; exact (h i hi).choose_spec⟩
/-- The kind of elements that a block holds. -/
def BT (W : World) (b t : Nat) : Prop := ∃ cs fr, W.heap[b]? = some (.cells cs t fr)
theorem BT.eq {W : World} {b t t' : Nat} (h : BT W b t) (h' : BT W b t') : t = t' := by
  obtain ⟨cs, fr, h⟩ := h
  obtain ⟨cs', fr', h'⟩ := h'
  rw [h] at h'
  injection h' with h'
  injection h'
theorem BT.of {W : World} {S T z n b : Nat} {v : Value} {xs : List Value} (h : W.ownsRow S T z v n xs) (e : v.ownBlock = some b) : BT W b T := by
  rcases h.2 with ⟨rfl, _⟩ | ⟨g, c, cur, rfl, _, hh, _⟩
  · cases e
  · obtain rfl : g = b := Option.some.inj e
    exact ⟨cur, _, hh⟩
/-- A list of another kind was told. -/
theorem Hd.other {S B j HT T z m nn : Nat} {V : Value} {E : Nat → Value} {nu N : Nat → Nat} {F : Nat → List Value} {W W' : World} {g c : Nat} {j' HT' m' : Nat} {V' l' : Value} {es' : List Value} (h : Hd S B j HT T z m V E nu N F W) (hj : j ≠ 0) (hjj : j ≠ j') (hHH : HT ≠ HT') (hTH : T ≠ HT') (hent : W.ownsRow S HT' 3 V' m' es') (t : Told S B j' HT' nn m' V' l' es' W W' g c) :
    Hd S B j HT T z m V E nu N F W' := by
  refine ⟨(t.oth j hj hjj).trans h.b, h.nil, own_keepP h.ent t.keep (fun b e e2 => ?_), h.vB, fun i hi => own_keepP (h.rows i hi) t.keep (fun b e e2 => ?_), h.eB, h.ee⟩
  · rcases e2 with e2 | e2
    · have := h.vB b e; omega
    · exact hHH ((BT.of h.ent e).eq (BT.of hent e2))
  · rcases e2 with e2 | e2
    · exact (h.eB i hi b e).1 e2
    · exact hTH ((BT.of (h.rows i hi) e).eq (BT.of hent e2))
/-- What a book that was told nn lists holds of one kind, all in blocks that are its own. -/
def Kd (S B j HT T z nn : Nat) (X : List Value → Prop) (own : Nat → Prop) (W : World) : Prop :=
  ∃ (m : Nat) (V : Value) (E : Nat → Value) (nu N : Nat → Nat) (F : Nat → List Value), m ≤ nn ∧ Hd S B j HT T z m V E nu N F W ∧ (∀ i, i < m → nu i ≤ nn) ∧ (∀ i, i < m → N i ≤ 5000000) ∧ (∀ i, i < m → X (F i)) ∧ (∀ b, V.ownBlock = some b ∨ OwnB m E b → own b)
section
variable {S B j HT T z nn : Nat} {X : List Value → Prop} {own : Nat → Prop} {W W' : World}
theorem Kd.keep {st : Nat → Prop} (h : Kd S B j HT T z nn X own W) (hB : B < W.heap.size) (k : KeepP st W W') (hs : ∀ b, own b → ¬ st b) (hoB : own B) : Kd S B j HT T z nn X own W' := by
  have hb : W'.heap[B]? = W.heap[B]? := k.block B hB (hs B hoB)
  obtain ⟨m, V, E, nu, N, F, h1, hd, h3, h4, h5, h6⟩ := h
  exact ⟨m, V, E, nu, N, F, h1, ⟨(World.cell?_of_block (a := ⟨B, j, none⟩) hb).trans hd.b, hd.nil, own_keepP hd.ent k (fun b e => hs b (h6 b (.inl e))), hd.vB, fun i hi => own_keepP (hd.rows i hi) k (fun b e => hs b (h6 b (.inr ⟨i, hi, e⟩))), hd.eB, hd.ee⟩, h3, h4, h5, h6⟩
theorem Kd.fresh (t : TypeId) (h1 : 1 ≤ j) (h2 : j < 13) (own : Nat → Prop) : Kd S W.heap.size j HT T z 0 X own (W.alloc (.cells #[.int .i64 0, .slice none 0 0, .slice none 0 0, .slice none 0 0, .slice none 0 0, .slice none 0 0, .slice none 0 0, .slice none 0 0, .slice none 0 0, .slice none 0 0, .slice none 0 0, .slice none 0 0, .slice none 0 0] t)) :=
  ⟨0, .slice none 0 0, fun _ => .slice none 0 0, fun _ => 0, fun _ => 0, fun _ => [], Nat.le_refl _, Hd.new S W t j _ _ _ h1 h2 _ _ _ _, fun _ h => absurd h (Nat.not_lt_zero _), fun _ h => absurd h (Nat.not_lt_zero _), fun _ h => absurd h (Nat.not_lt_zero _), fun b e => by
    rcases e with e | ⟨i, hi, _⟩
    · cases e
    · exact absurd hi (Nat.not_lt_zero _)⟩
/-- The blocks of the book behind one list more. -/
def ownL (own : Nat → Prop) (l : Value) (s : Nat) : Nat → Prop := fun b => own b ∨ l.ownBlock = some b ∨ s ≤ b
/-- A list of this kind was told. -/
theorem Kd.tell {m : Nat} {V l : Value} {E : Nat → Value} {nu N : Nat → Nat} {F : Nat → List Value} {g c nl : Nat} {xl : List Value}
    (h1 : m ≤ nn) (h2 : Hd S B j HT T z m V E nu N F W) (h3 : ∀ i, i < m → nu i ≤ nn) (h4 : ∀ i, i < m → N i ≤ 5000000) (h5 : ∀ i, i < m → X (F i)) (h6 : ∀ b, V.ownBlock = some b ∨ OwnB m E b → own b)
    (hbB : B < W.heap.size) (hoB : own B) (t : Told S B j HT nn m V l (entsN E nu m) W W' g c) (hl : W.ownsRow S T z l nl xl) (hx : ∀ k, l.ownBlock = some k → ¬ own k) (hnl : nl ≤ 5000000) (hX : X xl) : Kd S B j HT T z (nn + 1) X (ownL own l W.heap.size) W' := by
  have hd' := h2.told hbB t hl (fun k e => ⟨fun e2 => hx k e (e2 ▸ hoB), fun e2 => hx k e (h6 k (.inl e2))⟩) (fun i hi => by
    cases he : (E i).ownBlock with
    | none => exact .inl rfl
    | some b => exact .inr (fun e2 => hx b e2.symm (h6 b (.inr ⟨i, hi, he⟩))))
  refine ⟨m + 1, _, _, _, _, _, by omega, hd', fun i hi => ?_, fun i hi => ?_, fun i hi => ?_, fun b e => ?_⟩
  · by_cases c : i = m
    · rw [c, upd_at]; exact Nat.le_refl _
    · rw [upd_lt _ _ (show i < m by omega)]; have := h3 i (by omega); omega
  · by_cases c : i = m
    · rw [c, upd_at]; exact hnl
    · rw [upd_lt _ _ (show i < m by omega)]; exact h4 i (by omega)
  · by_cases c : i = m
    · rw [c, upd_at]; exact hX
    · rw [upd_lt _ _ (show i < m by omega)]; exact h5 i (by omega)
  · rcases e with e | ⟨i, hi, e⟩
    · injection e with e
      have e2 : g = b := e
      rcases t.at_ with q | q
      · exact .inl (h6 b (.inl (e2 ▸ q)))
      · exact .inr (.inr (by omega))
    · by_cases e3 : i = m
      · rw [e3, upd_at] at e; exact .inr (.inl e)
      · rw [upd_lt E _ (by omega)] at e; exact .inl (h6 b (.inr ⟨i, by omega, e⟩))
/-- A list of another kind was told. -/
theorem Kd.stay {j' HT' m' : Nat} {V' l' : Value} {es' : List Value} {g c : Nat} (h : Kd S B j HT T z nn X own W) (hj : j ≠ 0) (hjj : j ≠ j') (hHH : HT ≠ HT') (hTH : T ≠ HT') (hent : W.ownsRow S HT' 3 V' m' es') (t : Told S B j' HT' nn m' V' l' es' W W' g c) : Kd S B j HT T z (nn + 1) X (ownL own l' W.heap.size) W' := by
  obtain ⟨m, V, E, nu, N, F, h1, h2, h3, h4, h5, h6⟩ := h
  exact ⟨m, V, E, nu, N, F, by omega, h2.other hj hjj hHH hTH hent t, fun i hi => Nat.le_succ_of_le (h3 i hi), h4, h5, fun b e => .inl (h6 b e)⟩
/-- What telling writes belongs to the book. -/
theorem told_keep {m : Nat} {V l : Value} {es : List Value} {g c : Nat} (t : Told S B j HT nn m V l es W W' g c) (hoB : own B) (hV : ∀ b, V.ownBlock = some b → own b) : KeepP own W W' := keep_mono t.keep (fun b e => by
  rcases e with e | e
  · exact e ▸ hoB
  · exact hV b e)
end
end Go.Proofs.YtehadfidenejdaaGreatDoor.Bw

/-! A Book of several kinds: its lists of bytes. Written by mkbkb.py out of AeBook.lean. -/
namespace Go.Proofs.YtehadfidenejdaaGreatDoor.Bb
open Go Go.RowKit
open Go.Proofs.YtehadfidenejdaaGreatDoor.Bq (OwnB keep_grown keep_below own_keepP below_keepP Sep)

/-- The mark of the list with this place, as it is written. -/
def mark (n : Nat) : Value := .int .u8 (1 + (n : Int) % 250)

set_option maxHeartbeats 400000 in
theorem mark_any (n : Int) (w : World) (h0 : 0 ≤ n) (h1 : n ≤ 5000000) :
    Calls Tryz.prog 95 #[.int .i64 n] w fun e w' => e = .returned (.int .u8 (1 + n % 250)) ∧ w' = w := by
  go_enter Tryz.func95, Tryz.ntmps95
  go_wp2
  go_ret
  exact ⟨rfl, rfl⟩

/-- The book holds m lists in block h; each owns its elements; old memory is as it was. -/
structure St (S B h m cap : Nat) (nu : Nat → Nat) (E : Nat → Value) (N : Nat → Nat) (Lg : Nat → Value) (X : Nat → List Value) (w0 W : World) : Prop where
  sS : S ≤ W.heap.size
  bB : B < W.heap.size
  bh : h < W.heap.size
  book : W.cell? ⟨B, 1, none⟩ = some (.slice (some ⟨h, 0, none⟩) m cap)
  l : ∀ i, i < m → W.cell? ⟨h, i * 3, none⟩ = some (E i)
  g : ∀ i, i < m → W.cell? ⟨h, i * 3 + 1, none⟩ = some (Lg i)
  n : ∀ i, i < m → W.cell? ⟨h, i * 3 + 2, none⟩ = some (.int .i64 (nu i : Int))
  fz : ∀ j, W.frozen? ⟨h, j, none⟩ = false
  rows : ∀ i, i < m → W.ownsRow S 5 1 (E i) (N i) (X i)
  below : Below S w0 W

theorem St.grown {S B h m cap : Nat} {nu : Nat → Nat} {E : Nat → Value} {N : Nat → Nat} {Lg : Nat → Value} {X : Nat → List Value} {w0 W W' : World} {row : Option Nat} (st : St S B h m cap nu E N Lg X w0 W) (hg : W.grownBy W' row)
    (hS : ∀ k, row = some k → S ≤ k) (hB : row ≠ some B) (hh : row ≠ some h) (he : ∀ i, i < m → (E i).ownBlock = none ∨ (E i).ownBlock ≠ row) : St S B h m cap nu E N Lg X w0 W' where
  sS := Nat.le_trans st.sS hg.size
  bB := Nat.lt_of_lt_of_le st.bB hg.size
  bh := Nat.lt_of_lt_of_le st.bh hg.size
  book := hg.cell st.book (fun e => hB e.symm)
  l := fun i hi => hg.cell (st.l i hi) (fun e => hh e.symm)
  g := fun i hi => hg.cell (st.g i hi) (fun e => hh e.symm)
  n := fun i hi => hg.cell (st.n i hi) (fun e => hh e.symm)
  fz := fun j => (World.frozen?_of_block (w := W) (a := ⟨h, j, none⟩) (hg.block h st.bh (fun e => hh e.symm))).trans (st.fz j)
  rows := fun i hi => (st.rows i hi).kept hg (he i hi)
  below := st.below.grown hg st.sS hS

theorem St.alloc {S B h m cap : Nat} {nu : Nat → Nat} {E : Nat → Value} {N : Nat → Nat} {Lg : Nat → Value} {X : Nat → List Value} {w0 W : World} (st : St S B h m cap nu E N Lg X w0 W) (o : Obj) : St S B h m cap nu E N Lg X w0 (W.alloc o) :=
  st.grown (World.grownBy_alloc W o none) (fun _ e => by cases e) (by simp) (by simp) (fun i _ => by
    by_cases h : (E i).ownBlock = none
    · exact .inl h
    · exact .inr h)

theorem St.drew {S B h m cap : Nat} {nu : Nat → Nat} {E : Nat → Value} {N : Nat → Nat} {Lg : Nat → Value} {X : Nat → List Value} {w0 W : World} (st : St S B h m cap nu E N Lg X w0 W) : St S B h m cap nu E N Lg X w0 W.drew :=
  ⟨st.sS, st.bB, st.bh, st.book, st.l, st.g, st.n, st.fz, st.rows, st.below.drew⟩

/-- One element of one list is written. -/
theorem St.store {S B h m cap : Nat} {nu : Nat → Nat} {E : Nat → Value} {N : Nat → Nat} {Lg : Nat → Value} {X : Nat → List Value} {w0 W : World} (st : St S B h m cap nu E N Lg X w0 W) (sep : Sep S B h m E) {i g c : Nat} (hi : i < m) (he : E i = .slice (some ⟨g, 0, none⟩) (N i) c) (k : Nat) (u : Value) :
    St S B h m cap nu E N Lg (fun j => if j = i then (X i).set k u else X j) w0 (W.setCell ⟨g, k, none⟩ u) := by
  have hob : (E i).ownBlock = some g := by rw [he]; rfl
  have hSg : S ≤ g := ((st.rows i hi).lt g hob).1
  have hgr : W.grownBy (W.setCell ⟨g, k, none⟩ u) (some g) := ⟨rfl, rfl, rfl, by simp, fun b _ hb => Below.heap_setCell _ _ _ b (fun e => hb (by rw [e]))⟩
  have hgB : some g ≠ some B := fun e => sep.eB i hi (hob.trans e)
  have hgh : some g ≠ some h := fun e => sep.eh i hi (hob.trans e)
  refine ⟨Nat.le_trans st.sS hgr.size, Nat.lt_of_lt_of_le st.bB hgr.size, Nat.lt_of_lt_of_le st.bh hgr.size, hgr.cell st.book (fun e => hgB e.symm), fun j hj => hgr.cell (st.l j hj) (fun e => hgh e.symm), fun j hj => hgr.cell (st.g j hj) (fun e => hgh e.symm), fun j hj => hgr.cell (st.n j hj) (fun e => hgh e.symm), fun j => (World.frozen?_of_block (w := W) (a := ⟨h, j, none⟩) (hgr.block h st.bh (fun e => hgh e.symm))).trans (st.fz j), fun j hj => ?_, st.below.setCell (p := ⟨g, k, none⟩) hSg u⟩
  by_cases hji : j = i
  · subst hji
    rw [if_pos rfl]
    have hr := st.rows j hj
    rw [he] at hr ⊢
    exact (hr.stored k u).1
  · rw [if_neg hji]
    refine (st.rows j hj).kept hgr ?_
    rcases sep.ee j i hj hi hji with h | h
    · exact .inl h
    · exact .inr (by rw [← hob]; exact h)

/-- What a value that owns a row looks like. -/
theorem bookOwn_shape {W : World} {S : Nat} {v : Value} {n : Nat} {xs : List Value} (h : W.ownsRow S 5 1 v n xs) : (v = .slice none 0 0 ∧ n = 0) ∨ ∃ g c, v = .slice (some ⟨g, 0, none⟩) n c ∧ n ≤ c := by
  rcases h.2 with ⟨h1, h2⟩ | ⟨g, c, _, h1, _, _, h2, _⟩
  · exact .inl ⟨h1, h2⟩
  · exact .inr ⟨g, c, h1, h2⟩

theorem set_step (xs : List Value) (k n : Nat) (u : Value) (hl : xs.length = n) (hk : k < n) (h : xs.take k = List.replicate k u) : (xs.set k u).take (k + 1) = List.replicate (k + 1) u := by
  have hk2 : k < (xs.set k u).length := by rw [List.length_set]; omega
  rw [List.take_succ_eq_append_getElem hk2, List.getElem_set_self, List.take_set_of_le (Nat.le_refl _), h, List.replicate_succ']

set_option maxHeartbeats 4000000 in
theorem fill_any (S B h m cap : Nat) (nu : Nat → Nat) (E : Nat → Value) (N : Nat → Nat) (Lg : Nat → Value) (X : Nat → List Value) (w0 wF : World) (hnu : ∀ i, i < m → nu i ≤ 5000000) (hm2 : m ≤ 3000000) (hN : ∀ i, i < m → N i ≤ 5000000) (hLg : ∀ i, i < m → Lg i = .slice none 0 0) (sep : Sep S B h m E) (st : St S B h m cap nu E N Lg X w0 wF) :
    Calls Tryz.prog 52 #[.pointer (some ⟨B, 0, none⟩)] wF fun e w' => e = .returned (.tuple #[]) ∧ St S B h m cap nu E N Lg (fun i => List.replicate (N i) (mark (nu i))) w0 w' ∧ KeepP (OwnB m E) wF w' := by
  have hc := st.book
  have HST := veil st
  clear st
  go_enter Tryz.func52, Tryz.ntmps52
  go_wp2
  go_loopw [2] (fun i wr => ∃ (k : Nat) (Y : Nat → List Value), k ≤ m ∧ i = .int .i64 k ∧ St S B h m cap nu E N Lg Y w0 wr ∧ (∀ j, j < k → Y j = List.replicate (N j) (mark (nu j))) ∧ KeepP (OwnB m E) wF wr) (fun i _ => m - (intOf i).toNat)
  case atStart => exact ⟨0, X, Nat.zero_le _, rfl, HST.out, fun j hj => absurd hj (Nat.not_lt_zero _), KeepP.refl _ _⟩
  case round =>
    obtain ⟨k, Y, hk, rfl, st, hY, hkp⟩ := hrel
    have HKP := veil hkp
    clear hkp
    have hcb := st.book
    by_cases hlt : k < m
    · have c0 := st.l k hlt
      have c1 := st.g k hlt
      have c2 := st.n k hlt
      have hNk := hN k hlt
      have hnk := hnu k hlt
      have HSR : Hid (St S B h m cap nu E N Lg Y w0 wr) := st
      have HY : Hid (∀ j, j < k → Y j = List.replicate (N j) (mark (nu j))) := hY
      rw [hLg k hlt] at c1
      have hlen := (st.rows k hlt).1
      rw [Nat.mul_one] at hlen
      have hbh := st.bh
      rcases bookOwn_shape (st.rows k hlt) with ⟨hv, hn⟩ | ⟨g, c, hv, hnc⟩
      · rw [hv] at c0
        clear st hY
        go_wp2
        refine wp_loop_rounds 1 ?_
        rw [rounds_succ]
        go_wp2
        go_roundw
        case rel =>
          refine ⟨k + 1, Y, by omega, by go_num, HSR.out.alloc _, fun j hj => ?_, keep_grown HKP.out (World.grownBy_alloc _ _ none) (fun b e => by cases e)⟩
          rcases Nat.lt_or_ge j k with h1 | h1
          · exact HY.out j h1
          · obtain rfl : j = k := by omega
            rw [hn, List.replicate_zero]
            exact List.eq_nil_of_length_eq_zero (by rw [hlen, hn])
        case measure => simp [intOf]; omega
      · rw [hv] at c0
        have hgl : g < wr.heap.size := ((st.rows k hlt).lt g (by rw [hv]; rfl)).2
        clear st hY
        go_wp2
        obtain ⟨wo, rfl⟩ : ∃ wo : World, wo = wr := ⟨_, rfl⟩
        have HA := HSR.out.alloc (.cells #[.slice (some ⟨g, 0, none⟩) (N k) c, .slice none 0 0, .int .i64 (nu k : Int)] 95)
        go_loopw [4] (fun i wq => ∃ (q : Nat) (Z : List Value), q ≤ N k ∧ i = .int .i64 q ∧ St S B h m cap nu E N Lg (fun j => if j = k then Z else Y j) w0 wq ∧ Z.length = N k ∧ Z.take q = List.replicate q (mark (nu k)) ∧ wq.cell? ⟨wo.heap.size, 0, none⟩ = some (.slice (some ⟨g, 0, none⟩) (N k) c) ∧ wq.cell? ⟨wo.heap.size, 2, none⟩ = some (.int .i64 (nu k : Int)) ∧ KeepP (OwnB m E) wF wq) (fun i _ => N k - (intOf i).toNat)
        case atStart =>
          refine ⟨0, Y k, Nat.zero_le _, rfl, ?_, hlen, rfl, by simp, by simp, keep_grown HKP.out (World.grownBy_alloc _ _ none) (fun b e => by cases e)⟩
          have e : (fun j => if j = k then Y k else Y j) = Y := by
            funext j
            by_cases hj : j = k
            · rw [if_pos hj, hj]
            · rw [if_neg hj]
          rw [e]
          exact HA
        case round =>
          obtain ⟨q, Z, hq, rfl, st2, hZl, hZ, hp0, hp2, hkp2⟩ := hrel
          have HKP2 := veil hkp2
          clear hkp2
          have HS2 : Hid (St S B h m cap nu E N Lg (fun j => if j = k then Z else Y j) w0 wr) := st2
          by_cases hqn : q < N k
          · have hrow := st2.rows k hlt
            simp only [if_true] at hrow
            rw [hv] at hrow
            have hcg : wr.cell? ⟨g, q, none⟩ = some (Z[q]'(by omega)) := by rw [hrow.cellAt q (by omega), List.getElem?_eq_getElem]
            have hfg := hrow.frozenAt q
            obtain ⟨old, hold⟩ : ∃ old, wr.cell? ⟨g, q, none⟩ = some old := ⟨_, hcg⟩
            have HZ : Hid (Z.take q = List.replicate q (mark (nu k))) := hZ
            have HZl : Hid (Z.length = N k) := hZl
            have i1 : (0 : Int) ≤ (q : Int) := by omega
            have i2 : (q : Int) < (N k : Int) := by omega
            have hk0 : ∀ u, (wr.setCell ⟨g, q, none⟩ u).cell? ⟨wo.heap.size, 0, none⟩ = some (.slice (some ⟨g, 0, none⟩) (N k) c) := fun u => (World.cell?_of_block (w := wr) (a := ⟨wo.heap.size, 0, none⟩) (Below.heap_setCell wr ⟨g, q, none⟩ u wo.heap.size (by show wo.heap.size ≠ g; omega))).trans hp0
            have hk2 : ∀ u, (wr.setCell ⟨g, q, none⟩ u).cell? ⟨wo.heap.size, 2, none⟩ = some (.int .i64 (nu k : Int)) := fun u => (World.cell?_of_block (w := wr) (a := ⟨wo.heap.size, 2, none⟩) (Below.heap_setCell wr ⟨g, q, none⟩ u wo.heap.size (by show wo.heap.size ≠ g; omega))).trans hp2
            clear st2 hrow hcg hZ hZl HA
            go_wp2
            go_region_held3 (fun w' => w'.cell? ⟨wo.heap.size, 0, none⟩ = some (.slice (some ⟨g, 0, none⟩) (N k) c) ∧ w'.cell? ⟨wo.heap.size, 2, none⟩ = some (.int .i64 (nu k : Int))) (first | go_keep | exact ⟨hk0 _, hk2 _⟩) (first | (go_at_call 95; refine (mark_any _ _ (by omega) (by omega)).mono ?_; rintro e9 w9 ⟨rfl, rfl⟩))
            go_wp2
            go_roundw
            case rel =>
              have hst := (HS2.out.store sep hlt hv q (mark (nu k))).drew
              simp only [if_true] at hst
              have e : (fun j => if j = k then Z.set q (mark (nu k)) else if j = k then Z else Y j) = (fun j => if j = k then Z.set q (mark (nu k)) else Y j) := by
                funext j
                by_cases hj : j = k
                · rw [if_pos hj, if_pos hj]
                · rw [if_neg hj, if_neg hj, if_neg hj]
              rw [e] at hst
              exact ⟨q + 1, Z.set q (mark (nu k)), by omega, by go_num, hst, by rw [List.length_set]; exact HZl.out, set_step Z q (N k) (mark (nu k)) HZl.out hqn HZ.out, hk0 _, hk2 _, keep_grown (row := some g) HKP2.out ⟨rfl, rfl, rfl, by simp, fun b _ hb => Below.heap_setCell _ _ _ b (fun e => hb (by rw [e]))⟩ (fun b e => by injection e with e; subst e; exact .inl ⟨k, hlt, by rw [hv]; rfl⟩)⟩
            case measure => simp [intOf]; omega
          · have hqe : q = N k := by omega
            have HZF : Hid (Z = List.replicate (N k) (mark (nu k))) := by
              rw [hqe, List.take_of_length_le (by omega)] at hZ
              exact hZ
            clear st2 hZ hZl HA
            go_wp2
            go_roundw
            case rel =>
              refine ⟨k + 1, _, by omega, by go_num, HS2.out, fun j hj => ?_, HKP2.out⟩
              by_cases hjk : j = k
              · simp only [hjk, if_true]; exact HZF.out
              · simp only [hjk, if_false]; exact HY.out j (by omega)
            case measure => simp [intOf]; omega
    · have hkm : k = m := by omega
      subst hkm
      have HSR : Hid (St S B h k cap nu E N Lg Y w0 wr) := st
      have HY : Hid (∀ j, j < k → Y j = List.replicate (N j) (mark (nu j))) := hY
      clear st hY
      go_wp2
      go_end0
      have hst := HSR.out
      refine ⟨rfl, ⟨hst.sS, hst.bB, hst.bh, hst.book, hst.l, hst.g, hst.n, hst.fz, fun i hi => ?_, hst.below⟩, HKP.out⟩
      have := hst.rows i hi
      rw [HY.out i hi] at this
      exact this
end Go.Proofs.YtehadfidenejdaaGreatDoor.Bb
