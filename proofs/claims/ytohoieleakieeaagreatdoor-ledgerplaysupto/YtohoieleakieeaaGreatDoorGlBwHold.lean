/-
  What a Book holds of one kind of lists while it is told, older or newer than it. Written by mkbw.py.
-/
import Derived.Test.YtohoieleakieeaaGreatDoorGlBwApart
namespace Go.Proofs.YtohoieleakieeaaGreatDoor.Bw
open Go Go.RowKit
open Go.Proofs.YtohoieleakieeaaGreatDoor.Bq (OwnB own_keepP below_keepP keep_grown keep_below Sep)

/-- What telling a list leaves: the count, the longer list of entries, and all else as it was. -/
structure Told (S B j HT nn m : Nat) (V l : Value) (es : List Value) (W W' : World) (g c : Nat) : Prop where
  n : W'.cell? ⟨B, 0, none⟩ = some (.int .i64 ((nn : Int) + 1))
  b : W'.cell? ⟨B, j, none⟩ = some (.slice (some ⟨g, 0, none⟩) (m + 1) c)
  oth : ∀ q, q ≠ 0 → q ≠ j → W'.cell? ⟨B, q, none⟩ = W.cell? ⟨B, q, none⟩
  fz : ∀ q, W'.frozen? ⟨B, q, none⟩ = W.frozen? ⟨B, q, none⟩
  ent : W'.ownsRow S HT 3 (.slice (some ⟨g, 0, none⟩) (m + 1) c) (m + 1) (es ++ [l, .slice none 0 0, .int .i64 ((nn : Int) + 1)])
  at_ : V.ownBlock = some g ∨ W.heap.size ≤ g
  keep : KeepP (fun b => b = B ∨ V.ownBlock = some b) W W'
theorem told_of {S B j HT nn m : Nat} {V l : Value} {es : List Value} {W w1 : World} {g c : Nat} (hj : j ≠ 0) (hbB : B < W.heap.size) (hn : W.cell? ⟨B, 0, none⟩ = some (.int .i64 (nn : Int))) (hb : W.cell? ⟨B, j, none⟩ = some V) (hVB : ∀ k, V.ownBlock = some k → B < k)
    (hgr : (W.setCell ⟨B, 0, none⟩ (.int .i64 ((nn : Int) + 1))).grownBy w1 V.ownBlock) (hat : V.ownBlock = some g ∨ g = W.heap.size + 1) (hown : w1.ownsRow S HT 3 (.slice (some ⟨g, 0, none⟩) (m + 1) c) (m + 1) (es ++ [l, .slice none 0 0, .int .i64 ((nn : Int) + 1)])) :
    Told S B j HT nn m V l es W (w1.setCell ⟨B, j, none⟩ (.slice (some ⟨g, 0, none⟩) (m + 1) c)) g c := by
  have hV : some B ≠ V.ownBlock := fun e => by have := hVB B e.symm; omega
  have hB1 : B < (W.setCell ⟨B, 0, none⟩ (.int .i64 ((nn : Int) + 1))).heap.size := by simpa using hbB
  have hblk := hgr.block B hB1 hV
  have hgr2 : w1.grownBy (w1.setCell ⟨B, j, none⟩ (.slice (some ⟨g, 0, none⟩) (m + 1) c)) (some B) := ⟨rfl, rfl, rfl, by simp, fun b _ hb => Below.heap_setCell _ _ _ b (fun e => hb (by rw [e]))⟩
  have hgB : g ≠ B := fun e => by
    rcases hat with h | h
    · have := hVB g h; omega
    · omega
  have c0 : w1.cell? ⟨B, 0, none⟩ = some (.int .i64 ((nn : Int) + 1)) := (World.cell?_of_block (a := ⟨B, 0, none⟩) hblk).trans (World.cell?_setCell_same _ _ _ hn)
  have cq : ∀ q, q ≠ 0 → w1.cell? ⟨B, q, none⟩ = W.cell? ⟨B, q, none⟩ := fun q hq => by
    refine (World.cell?_of_block (a := ⟨B, q, none⟩) hblk).trans ?_
    rw [World.cell?_setCell_other _ _ _ _ (by intro e; injection e; omega)]
  refine ⟨?_, World.cell?_setCell_same _ _ _ ((cq j hj).trans hb), fun q h1 h2 => ?_, fun q => ?_, hown.kept hgr2 (.inr ?_), ?_, ⟨?_, ?_, ?_, ?_, fun b hb hn => ?_⟩⟩
  · rw [World.cell?_setCell_other _ _ _ _ (by intro e; injection e; omega)]; exact c0
  · rw [World.cell?_setCell_other _ _ _ _ (by intro e; injection e; omega)]; exact cq q h1
  · rw [World.frozen?_setCell]
    refine (World.frozen?_of_block (a := ⟨B, q, none⟩) hblk).trans ?_
    rw [World.frozen?_setCell]
  · intro e; injection e with e; exact hgB e
  · rcases hat with h | h
    · exact .inl h
    · exact .inr (by omega)
  · exact hgr.os
  · exact hgr.tape
  · exact hgr.output
  · have := hgr.size
    simp at this ⊢
    exact this
  · rw [Below.heap_setCell _ _ _ b (fun e => hn (.inl e)), hgr.block b (by simpa using hb) (fun e => hn (.inr e.symm)), Below.heap_setCell _ _ _ b (fun e => hn (.inl e))]

/-- The entries, one behind the other, with their numbers. -/
def entsN (E : Nat → Value) (nu : Nat → Nat) : Nat → List Value
  | 0 => []
  | m + 1 => entsN E nu m ++ [E m, .slice none 0 0, .int .i64 (nu m : Int)]
theorem entsN_length (E : Nat → Value) (nu : Nat → Nat) : ∀ m, (entsN E nu m).length = m * 3
  | 0 => rfl
  | m + 1 => by rw [entsN, List.length_append, entsN_length E nu m]; simp; omega
theorem entsN_at (E : Nat → Value) (nu : Nat → Nat) : ∀ m i, i < m → (entsN E nu m)[i * 3]? = some (E i) ∧ (entsN E nu m)[i * 3 + 1]? = some (.slice none 0 0) ∧ (entsN E nu m)[i * 3 + 2]? = some (.int .i64 (nu i : Int))
  | 0, i, h => absurd h (Nat.not_lt_zero _)
  | m + 1, i, h => by
    rw [entsN]
    have hl := entsN_length E nu m
    by_cases him : i < m
    · obtain ⟨h1, h2, h3⟩ := entsN_at E nu m i him
      rw [List.getElem?_append_left (by omega), List.getElem?_append_left (by omega), List.getElem?_append_left (by omega)]
      exact ⟨h1, h2, h3⟩
    · have him2 : i = m := by omega
      subst him2
      rw [List.getElem?_append_right (by omega), List.getElem?_append_right (by omega), List.getElem?_append_right (by omega), hl, Nat.sub_self, Nat.add_sub_cancel_left, Nat.add_sub_cancel_left]
      exact ⟨rfl, rfl, rfl⟩
theorem entsN_congr {E F : Nat → Value} {nu mu : Nat → Nat} : ∀ m, (∀ i, i < m → E i = F i ∧ nu i = mu i) → entsN E nu m = entsN F mu m
  | 0, _ => rfl
  | m + 1, h => by rw [entsN, entsN, entsN_congr m (fun i hi => h i (by omega)), (h m (by omega)).1, (h m (by omega)).2]
/-- One more is told. -/
def upd {α : Type} (f : Nat → α) (m : Nat) (x : α) : Nat → α := fun i => if i = m then x else f i
theorem upd_at {α : Type} (f : Nat → α) (m : Nat) (x : α) : upd f m x m = x := if_pos rfl
theorem upd_lt {α : Type} (f : Nat → α) {m i : Nat} (x : α) (h : i < m) : upd f m x i = f i := if_neg (by omega)

/-- What the book in block B holds of one kind: its cell j, m entries, the lists, older or newer than the book. -/
structure Hd (S B j HT T z m : Nat) (V : Value) (E : Nat → Value) (nu N : Nat → Nat) (F : Nat → List Value) (W : World) : Prop where
  b : W.cell? ⟨B, j, none⟩ = some V
  nil : m = 0 → V = .slice none 0 0
  ent : W.ownsRow S HT 3 V m (entsN E nu m)
  vB : ∀ k, V.ownBlock = some k → B < k
  rows : ∀ i, i < m → W.ownsRow S T z (E i) (N i) (F i)
  eB : ∀ i, i < m → ∀ k, (E i).ownBlock = some k → k ≠ B ∧ V.ownBlock ≠ some k
  ee : ∀ i j, i < m → j < m → i ≠ j → (E i).ownBlock = none ∨ (E i).ownBlock ≠ (E j).ownBlock
section
variable {S B j HT T z m nn nl : Nat} {V l : Value} {E : Nat → Value} {nu N : Nat → Nat} {F : Nat → List Value} {xl : List Value} {W W' : World} {g c : Nat}
/-- A list of this kind was told. -/
theorem Hd.told (h : Hd S B j HT T z m V E nu N F W) (hbB : B < W.heap.size) (t : Told S B j HT nn m V l (entsN E nu m) W W' g c) (hl : W.ownsRow S T z l nl xl) (hlB : ∀ k, l.ownBlock = some k → k ≠ B ∧ V.ownBlock ≠ some k) (hle : ∀ i, i < m → (E i).ownBlock = none ∨ (E i).ownBlock ≠ l.ownBlock) :
    Hd S B j HT T z (m + 1) (.slice (some ⟨g, 0, none⟩) (m + 1) c) (upd E m l) (upd nu m (nn + 1)) (upd N m nl) (upd F m xl) W' := by
  have low : ∀ k, k ≠ B ∧ V.ownBlock ≠ some k → ¬ (k = B ∨ V.ownBlock = some k) := fun k hk e => by
    rcases e with e | e
    · exact hk.1 e
    · exact hk.2 e
  have gnew : ∀ k, k < W.heap.size → V.ownBlock ≠ some k → (Value.slice (some ⟨g, 0, none⟩) (m + 1) c).ownBlock ≠ some k := fun k h1 h2 e => by
    injection e with e
    have e2 : g = k := e
    rcases t.at_ with q | q
    · exact h2 (e2 ▸ q)
    · omega
  refine ⟨t.b, fun e => absurd e (Nat.succ_ne_zero _), ?_, fun k e => ?_, fun i hi => ?_, fun i hi k e => ?_, fun i q hi hq hiq => ?_⟩
  · have e : entsN (upd E m l) (upd nu m (nn + 1)) (m + 1) = entsN E nu m ++ [l, .slice none 0 0, .int .i64 ((nn : Int) + 1)] := by
      rw [entsN, upd_at, upd_at, entsN_congr m (F := E) (mu := nu) (fun i hi => ⟨upd_lt E l hi, upd_lt nu _ hi⟩)]
      rfl
    rw [e]
    exact t.ent
  · injection e with e
    have e2 : g = k := e
    rcases t.at_ with h1 | h1
    · have := h.vB g h1; omega
    · omega
  · by_cases him : i = m
    · rw [him, upd_at, upd_at, upd_at]; exact own_keepP hl t.keep (fun b e => low b (hlB b e))
    · rw [upd_lt E l (by omega), upd_lt N nl (by omega), upd_lt F xl (by omega)]; exact own_keepP (h.rows i (by omega)) t.keep (fun b e => low b (h.eB i (by omega) b e))
  · by_cases him : i = m
    · rw [him, upd_at] at e; exact ⟨(hlB k e).1, gnew k (hl.lt k e).2 (hlB k e).2⟩
    · rw [upd_lt E l (by omega)] at e; exact ⟨(h.eB i (by omega) k e).1, gnew k ((h.rows i (by omega)).lt k e).2 (h.eB i (by omega) k e).2⟩
  · by_cases him : i = m
    · by_cases hqm : q = m
      · omega
      · rw [him, upd_at, upd_lt E l (by omega)]
        cases hlo : l.ownBlock with
        | none => exact .inl rfl
        | some k =>
          right
          rcases hle q (by omega) with h1 | h1
          · rw [h1]; simp
          · rw [hlo] at h1; exact fun e => h1 e.symm
    · rw [upd_lt E l (by omega)]
      by_cases hqm : q = m
      · rw [hqm, upd_at]; exact hle i (by omega)
      · rw [upd_lt E l (by omega)]; exact h.ee i q (by omega) (by omega) hiq
end
theorem new_cell (W : World) (t : TypeId) : ∀ j, 1 ≤ j → j < 13 → (W.alloc (.cells #[.int .i64 0, .slice none 0 0, .slice none 0 0, .slice none 0 0, .slice none 0 0, .slice none 0 0, .slice none 0 0, .slice none 0 0, .slice none 0 0, .slice none 0 0, .slice none 0 0, .slice none 0 0, .slice none 0 0] t)).cell? ⟨W.heap.size, j, none⟩ = some (.slice none 0 0) := fun j h1 h2 => by
  have : j = 1 ∨ j = 2 ∨ j = 3 ∨ j = 4 ∨ j = 5 ∨ j = 6 ∨ j = 7 ∨ j = 8 ∨ j = 9 ∨ j = 10 ∨ j = 11 ∨ j = 12 := by omega
  rcases this with rfl | rfl | rfl | rfl | rfl | rfl | rfl | rfl | rfl | rfl | rfl | rfl <;> simp
theorem new_count (W : World) (t : TypeId) : (W.alloc (.cells #[.int .i64 0, .slice none 0 0, .slice none 0 0, .slice none 0 0, .slice none 0 0, .slice none 0 0, .slice none 0 0, .slice none 0 0, .slice none 0 0, .slice none 0 0, .slice none 0 0, .slice none 0 0, .slice none 0 0] t)).cell? ⟨W.heap.size, 0, none⟩ = some (.int .i64 ((0 : Nat) : Int)) := by simp
theorem new_frozen (W : World) (t : TypeId) (j : Nat) : (W.alloc (.cells #[.int .i64 0, .slice none 0 0, .slice none 0 0, .slice none 0 0, .slice none 0 0, .slice none 0 0, .slice none 0 0, .slice none 0 0, .slice none 0 0, .slice none 0 0, .slice none 0 0, .slice none 0 0, .slice none 0 0] t)).frozen? ⟨W.heap.size, j, none⟩ = false := World.frozen?_alloc_new _ _ _ _
/-- An empty book holds nothing of any kind. -/
theorem Hd.new (S : Nat) (W : World) (t : TypeId) (j HT T z : Nat) (h1 : 1 ≤ j) (h2 : j < 13) (E : Nat → Value) (nu N : Nat → Nat) (F : Nat → List Value) : Hd S W.heap.size j HT T z 0 (.slice none 0 0) E nu N F (W.alloc (.cells #[.int .i64 0, .slice none 0 0, .slice none 0 0, .slice none 0 0, .slice none 0 0, .slice none 0 0, .slice none 0 0, .slice none 0 0, .slice none 0 0, .slice none 0 0, .slice none 0 0, .slice none 0 0, .slice none 0 0] t)) :=
  ⟨new_cell W t j h1 h2, fun _ => rfl, World.ownsRow_nil _ _ _ _, fun k e => (by cases e), fun i hi => absurd hi (Nat.not_lt_zero _), fun i hi => absurd hi (Nat.not_lt_zero _), fun i j hi => absurd hi (Nat.not_lt_zero _)⟩


theorem pick_all {α : Type} [Inhabited α] {Pr : Nat → α → Prop} {m : Nat} (h : ∀ i, i < m → ∃ a, Pr i a) : ∃ Y : Nat → α, ∀ i, i < m → Pr i (Y i) :=
  ⟨fun i => if h2 : i < m then (h i h2).choose else default, fun i hi => by simp only [dif_pos hi]; exact (h i hi).choose_spec⟩
/-- The kind of elements that a block holds. -/
def BT (W : World) (b t : Nat) : Prop := ∃ cs fr, W.heap[b]? = some (.cells cs t fr)
theorem BT.eq {W : World} {b t t' : Nat} (h : BT W b t) (h' : BT W b t') : t = t' := by
  obtain ⟨cs, fr, h⟩ := h
  obtain ⟨cs', fr', h'⟩ := h'
  rw [h] at h'
  injection h' with h'
  injection h'
theorem BT.of {W : World} {S T z n b : Nat} {v : Value} {xs : List Value} (h : W.ownsRow S T z v n xs) (e : v.ownBlock = some b) : BT W b T := by
  rcases h.2 with ⟨rfl, _⟩ | ⟨g, c, cur, rfl, _, hh, _⟩
  · cases e
  · obtain rfl : g = b := Option.some.inj e
    exact ⟨cur, _, hh⟩
/-- A list of another kind was told. -/
theorem Hd.other {S B j HT T z m nn : Nat} {V : Value} {E : Nat → Value} {nu N : Nat → Nat} {F : Nat → List Value} {W W' : World} {g c : Nat} {j' HT' m' : Nat} {V' l' : Value} {es' : List Value} (h : Hd S B j HT T z m V E nu N F W) (hj : j ≠ 0) (hjj : j ≠ j') (hHH : HT ≠ HT') (hTH : T ≠ HT') (hent : W.ownsRow S HT' 3 V' m' es') (t : Told S B j' HT' nn m' V' l' es' W W' g c) :
    Hd S B j HT T z m V E nu N F W' := by
  refine ⟨(t.oth j hj hjj).trans h.b, h.nil, own_keepP h.ent t.keep (fun b e e2 => ?_), h.vB, fun i hi => own_keepP (h.rows i hi) t.keep (fun b e e2 => ?_), h.eB, h.ee⟩
  · rcases e2 with e2 | e2
    · have := h.vB b e; omega
    · exact hHH ((BT.of h.ent e).eq (BT.of hent e2))
  · rcases e2 with e2 | e2
    · exact (h.eB i hi b e).1 e2
    · exact hTH ((BT.of (h.rows i hi) e).eq (BT.of hent e2))
/-- What a book that was told nn lists holds of one kind, all in blocks that are its own. -/
def Kd (S B j HT T z nn : Nat) (X : List Value → Prop) (own : Nat → Prop) (W : World) : Prop :=
  ∃ (m : Nat) (V : Value) (E : Nat → Value) (nu N : Nat → Nat) (F : Nat → List Value), m ≤ nn ∧ Hd S B j HT T z m V E nu N F W ∧ (∀ i, i < m → nu i ≤ nn) ∧ (∀ i, i < m → N i ≤ 5000000) ∧ (∀ i, i < m → X (F i)) ∧ (∀ b, V.ownBlock = some b ∨ OwnB m E b → own b)
section
variable {S B j HT T z nn : Nat} {X : List Value → Prop} {own : Nat → Prop} {W W' : World}
theorem Kd.keep {st : Nat → Prop} (h : Kd S B j HT T z nn X own W) (hB : B < W.heap.size) (k : KeepP st W W') (hs : ∀ b, own b → ¬ st b) (hoB : own B) : Kd S B j HT T z nn X own W' := by
  have hb : W'.heap[B]? = W.heap[B]? := k.block B hB (hs B hoB)
  obtain ⟨m, V, E, nu, N, F, h1, hd, h3, h4, h5, h6⟩ := h
  exact ⟨m, V, E, nu, N, F, h1, ⟨(World.cell?_of_block (a := ⟨B, j, none⟩) hb).trans hd.b, hd.nil, own_keepP hd.ent k (fun b e => hs b (h6 b (.inl e))), hd.vB, fun i hi => own_keepP (hd.rows i hi) k (fun b e => hs b (h6 b (.inr ⟨i, hi, e⟩))), hd.eB, hd.ee⟩, h3, h4, h5, h6⟩
theorem Kd.fresh (t : TypeId) (h1 : 1 ≤ j) (h2 : j < 13) (own : Nat → Prop) : Kd S W.heap.size j HT T z 0 X own (W.alloc (.cells #[.int .i64 0, .slice none 0 0, .slice none 0 0, .slice none 0 0, .slice none 0 0, .slice none 0 0, .slice none 0 0, .slice none 0 0, .slice none 0 0, .slice none 0 0, .slice none 0 0, .slice none 0 0, .slice none 0 0] t)) :=
  ⟨0, .slice none 0 0, fun _ => .slice none 0 0, fun _ => 0, fun _ => 0, fun _ => [], Nat.le_refl _, Hd.new S W t j _ _ _ h1 h2 _ _ _ _, fun _ h => absurd h (Nat.not_lt_zero _), fun _ h => absurd h (Nat.not_lt_zero _), fun _ h => absurd h (Nat.not_lt_zero _), fun b e => by
    rcases e with e | ⟨i, hi, _⟩
    · cases e
    · exact absurd hi (Nat.not_lt_zero _)⟩
/-- The blocks of the book behind one list more. -/
def ownL (own : Nat → Prop) (l : Value) (s : Nat) : Nat → Prop := fun b => own b ∨ l.ownBlock = some b ∨ s ≤ b
/-- A list of this kind was told. -/
theorem Kd.tell {m : Nat} {V l : Value} {E : Nat → Value} {nu N : Nat → Nat} {F : Nat → List Value} {g c nl : Nat} {xl : List Value}
    (h1 : m ≤ nn) (h2 : Hd S B j HT T z m V E nu N F W) (h3 : ∀ i, i < m → nu i ≤ nn) (h4 : ∀ i, i < m → N i ≤ 5000000) (h5 : ∀ i, i < m → X (F i)) (h6 : ∀ b, V.ownBlock = some b ∨ OwnB m E b → own b)
    (hbB : B < W.heap.size) (hoB : own B) (t : Told S B j HT nn m V l (entsN E nu m) W W' g c) (hl : W.ownsRow S T z l nl xl) (hx : ∀ k, l.ownBlock = some k → ¬ own k) (hnl : nl ≤ 5000000) (hX : X xl) : Kd S B j HT T z (nn + 1) X (ownL own l W.heap.size) W' := by
  have hd' := h2.told hbB t hl (fun k e => ⟨fun e2 => hx k e (e2 ▸ hoB), fun e2 => hx k e (h6 k (.inl e2))⟩) (fun i hi => by
    cases he : (E i).ownBlock with
    | none => exact .inl rfl
    | some b => exact .inr (fun e2 => hx b e2.symm (h6 b (.inr ⟨i, hi, he⟩))))
  refine ⟨m + 1, _, _, _, _, _, by omega, hd', fun i hi => ?_, fun i hi => ?_, fun i hi => ?_, fun b e => ?_⟩
  · by_cases c : i = m
    · rw [c, upd_at]; exact Nat.le_refl _
    · rw [upd_lt _ _ (show i < m by omega)]; have := h3 i (by omega); omega
  · by_cases c : i = m
    · rw [c, upd_at]; exact hnl
    · rw [upd_lt _ _ (show i < m by omega)]; exact h4 i (by omega)
  · by_cases c : i = m
    · rw [c, upd_at]; exact hX
    · rw [upd_lt _ _ (show i < m by omega)]; exact h5 i (by omega)
  · rcases e with e | ⟨i, hi, e⟩
    · injection e with e
      have e2 : g = b := e
      rcases t.at_ with q | q
      · exact .inl (h6 b (.inl (e2 ▸ q)))
      · exact .inr (.inr (by omega))
    · by_cases e3 : i = m
      · rw [e3, upd_at] at e; exact .inr (.inl e)
      · rw [upd_lt E _ (by omega)] at e; exact .inl (h6 b (.inr ⟨i, by omega, e⟩))
/-- A list of another kind was told. -/
theorem Kd.stay {j' HT' m' : Nat} {V' l' : Value} {es' : List Value} {g c : Nat} (h : Kd S B j HT T z nn X own W) (hj : j ≠ 0) (hjj : j ≠ j') (hHH : HT ≠ HT') (hTH : T ≠ HT') (hent : W.ownsRow S HT' 3 V' m' es') (t : Told S B j' HT' nn m' V' l' es' W W' g c) : Kd S B j HT T z (nn + 1) X (ownL own l' W.heap.size) W' := by
  obtain ⟨m, V, E, nu, N, F, h1, h2, h3, h4, h5, h6⟩ := h
  exact ⟨m, V, E, nu, N, F, by omega, h2.other hj hjj hHH hTH hent t, fun i hi => Nat.le_succ_of_le (h3 i hi), h4, h5, fun b e => .inl (h6 b e)⟩
/-- What telling writes belongs to the book. -/
theorem told_keep {m : Nat} {V l : Value} {es : List Value} {g c : Nat} (t : Told S B j HT nn m V l es W W' g c) (hoB : own B) (hV : ∀ b, V.ownBlock = some b → own b) : KeepP own W W' := keep_mono t.keep (fun b e => by
  rcases e with e | e
  · exact e ▸ hoB
  · exact hV b e)
end
end Go.Proofs.YtohoieleakieeaaGreatDoor.Bw
