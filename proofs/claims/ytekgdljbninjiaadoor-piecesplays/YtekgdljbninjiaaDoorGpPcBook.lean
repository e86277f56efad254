/-
  A Book of lists of bytes alone, that may be older or newer than it: what it holds while it is told, that its lists are apart. Written by mkpcbook.py out of BkTell, BkHold, BkNew.
-/
import Derived.Test.YtekgdljbninjiaaDoorGpBkKinds
namespace Go.Proofs.YtekgdljbninjiaaDoor.Ba
open Go Go.RowKit
open Go.Proofs.YtekgdljbninjiaaDoor.Bq (OwnB own_keepP below_keepP keep_grown keep_below Sep)

/-- What telling a list leaves: the count, the longer list of entries, and all else as it was. -/
structure Told (S B j HT nn m : Nat) (V l : Value) (es : List Value) (W W' : World) (g c : Nat) : Prop where
  n : W'.cell? ⟨B, 0, none⟩ = some (.int .i64 ((nn : Int) + 1))
  b : W'.cell? ⟨B, j, none⟩ = some (.slice (some ⟨g, 0, none⟩) (m + 1) c)
  oth : ∀ q, q ≠ 0 → q ≠ j → W'.cell? ⟨B, q, none⟩ = W.cell? ⟨B, q, none⟩
  fz : ∀ q, W'.frozen? ⟨B, q, none⟩ = W.frozen? ⟨B, q, none⟩
  ent : W'.ownsRow S HT 3 (.slice (some ⟨g, 0, none⟩) (m + 1) c) (m + 1) (es ++ [l, .slice none 0 0, .int .i64 ((nn : Int) + 1)])
  at_ : V.ownBlock = some g ∨ W.heap.size ≤ g
  keep : KeepP (fun b => b = B ∨ V.ownBlock = some b) W W'
theorem told_of {S B j HT nn m : Nat} {V l : Value} {es : List Value} {W w1 : World} {g c : Nat} (hj : j ≠ 0) (hbB : B < W.heap.size) (hn : W.cell? ⟨B, 0, none⟩ = some (.int .i64 (nn : Int))) (hb : W.cell? ⟨B, j, none⟩ = some V) (hVB : ∀ k, V.ownBlock = some k → B < k)
    (hgr : (W.setCell ⟨B, 0, none⟩ (.int .i64 ((nn : Int) + 1))).grownBy w1 V.ownBlock) (hat : V.ownBlock = some g ∨ g = W.heap.size + 1) (hown : w1.ownsRow S HT 3 (.slice (some ⟨g, 0, none⟩) (m + 1) c) (m + 1) (es ++ [l, .slice none 0 0, .int .i64 ((nn : Int) + 1)])) :
    Told S B j HT nn m V l es W (w1.setCell ⟨B, j, none⟩ (.slice (some ⟨g, 0, none⟩) (m + 1) c)) g c := by
  have hV : some B ≠ V.ownBlock := fun e => by have := hVB B e.symm; omega
  have hB1 : B < (W.setCell ⟨B, 0, none⟩ (.int .i64 ((nn : Int) + 1))).heap.size := by simpa using hbB
  have hblk := hgr.block B hB1 hV
  have hgr2 : w1.grownBy (w1.setCell ⟨B, j, none⟩ (.slice (some ⟨g, 0, none⟩) (m + 1) c)) (some B) := ⟨rfl, rfl, rfl, by simp, fun b _ hb => Below.heap_setCell _ _ _ b (fun e => hb (by rw [e]))⟩
  have hgB : g ≠ B := fun e => by
    rcases hat with h | h
    · have := hVB g h; omega
    · omega
  have c0 : w1.cell? ⟨B, 0, none⟩ = some (.int .i64 ((nn : Int) + 1)) := (World.cell?_of_block (a := ⟨B, 0, none⟩) hblk).trans (World.cell?_setCell_same _ _ _ hn)
  have cq : ∀ q, q ≠ 0 → w1.cell? ⟨B, q, none⟩ = W.cell? ⟨B, q, none⟩ := fun q hq => by
    refine (World.cell?_of_block (a := ⟨B, q, none⟩) hblk).trans ?_
    rw [World.cell?_setCell_other _ _ _ _ (by intro e; injection e; omega)]
  refine ⟨?_, World.cell?_setCell_same _ _ _ ((cq j hj).trans hb), fun q h1 h2 => ?_, fun q => ?_, hown.kept hgr2 (.inr ?_), ?_, ⟨?_, ?_, ?_, ?_, fun b hb hn => ?_⟩⟩
  · rw [World.cell?_setCell_other _ _ _ _ (by intro e; injection e; omega)]; exact c0
  · rw [World.cell?_setCell_other _ _ _ _ (by intro e; injection e; omega)]; exact cq q h1
  · rw [World.frozen?_setCell]
    refine (World.frozen?_of_block (a := ⟨B, q, none⟩) hblk).trans ?_
    rw [World.frozen?_setCell]
  · intro e; injection e with e; exact hgB e
  · rcases hat with h | h
    · exact .inl h
    · exact .inr (by omega)
  · exact hgr.os
  · exact hgr.tape
  · exact hgr.output
  · have := hgr.size
    simp at this ⊢
    exact this
  · rw [Below.heap_setCell _ _ _ b (fun e => hn (.inl e)), hgr.block b (by simpa using hb) (fun e => hn (.inr e.symm)), Below.heap_setCell _ _ _ b (fun e => hn (.inl e))]

theorem Tryd.infoHeldTByte : (Tryd.prog.info? 75).map (fun i => (i.zero, i.size, i.bytes)) = some (some (.agg #[.slice none 0 0, .slice none 0 0, .int .i64 0]), 3, 56) := by kernel_rfl
set_option maxRecDepth 20000 in
set_option maxHeartbeats 2000000 in
theorem tellByte (S B nn m : Nat) (V : Value) (es : List Value) (W : World) (al : Option Addr) (nl cl : Nat) (hm : m ≤ 100000) (hnn : nn ≤ 5000000) (hn : W.cell? ⟨B, 0, none⟩ = some (.int .i64 (nn : Int))) (hb : W.cell? ⟨B, 1, none⟩ = some V) (hfz : ∀ q, W.frozen? ⟨B, q, none⟩ = false) (hbB : B < W.heap.size) (hSW : S ≤ W.heap.size) (ent : W.ownsRow S 75 3 V m es) (hVB : ∀ k, V.ownBlock = some k → B < k) :
    Calls Tryd.prog 25 #[.pointer (some ⟨B, 0, none⟩), .slice al nl cl] W fun e w' => e = .returned (.tuple #[]) ∧ ∃ g c, Told S B 1 75 nn m V (.slice al nl cl) es W w' g c := by
  obtain ⟨i0, hi, hz0, hz1, hz2⟩ := info_parts Tryd.infoHeldTByte
  obtain ⟨av, cv, rfl⟩ : ∃ av cv, V = .slice av m cv := by
    rcases ent.2 with ⟨h1, h2⟩ | ⟨g, c, _, h1, _⟩
    · exact ⟨none, 0, by rw [h1, h2]⟩
    · exact ⟨some ⟨g, 0, none⟩, c, h1⟩
  have HNC := veil hn
  have HBC := veil hb
  have HV := veil hVB
  have hfz0 := hfz 0
  have hcn := hn
  have hcb := hb
  have hf6 := hfz 1
  have HENT := veil ent
  clear ent hn hb hfz hVB
  go_enter Tryd.func25, Tryd.ntmps25
  go_wp2_with fail
  obtain ⟨W1, hW1⟩ : ∃ W1, W1 = W.setCell ⟨B, 0, none⟩ (.int .i64 ((nn : Int) + 1)) := ⟨_, rfl⟩
  rw [← hW1]
  have hgr0 : W.grownBy W1 (some B) := by
    rw [hW1]
    exact ⟨rfl, rfl, rfl, by simp, fun b _ hb => Below.heap_setCell _ _ _ b (fun e => hb (by rw [e]))⟩
  have hVB : some B ≠ (Value.slice av m cv).ownBlock := by
    intro e
    have := HV.out B e.symm
    omega
  have HE1 := veil (HENT.out.kept hgr0 (.inr (fun e => hVB e.symm)))
  have hn1 : W1.cell? ⟨B, 0, none⟩ = some (.int .i64 ((nn : Int) + 1)) := by rw [hW1]; exact World.cell?_setCell_same _ _ _ HNC.out
  have hb1 : W1.cell? ⟨B, 1, none⟩ = some (.slice av m cv) := by rw [hW1, World.cell?_setCell_other _ _ _ _ (by intro e; injection e; omega)]; exact HBC.out
  have hf1 : W1.frozen? ⟨B, 1, none⟩ = false := by rw [hW1, World.frozen?_setCell]; exact hf6
  have hbB1 : B < W1.heap.size := by rw [hW1]; simpa using hbB
  have HS1 := veil (show W1.heap.size = W.heap.size by rw [hW1]; simp)
  have hS1 : S ≤ W1.heap.size := by rw [HS1.out]; exact hSW
  have hbA : ∀ o, (W1.alloc o).cell? ⟨B, 1, none⟩ = some (.slice av m cv) := fun o => (World.cell?_alloc_old _ _ _ (by show B ≠ _; omega)).trans hb1
  have hfA : ∀ o, (W1.alloc o).frozen? ⟨B, 1, none⟩ = false := fun o => (World.frozen?_of_block (w := W1) (a := ⟨B, 1, none⟩) ((World.grownBy_alloc W1 o none).block B hbB1 (by simp))).trans hf1
  have HW1 := veil hW1
  clear hgr0 hW1 hcn hcb hfz0 hf6 HENT
  go_region_law (refine step_append_lies _ (by rfl) _ _ 35 (by rfl) S 75 i0 _ 3 56 Tryd.underlying35 hi hz0 hz1 hz2 (by rfl) (by decide) (.slice av m cv) m es (by rfl) (by exact (HE1.out.alloc _)) ⟨W1.heap.size, 0, none⟩ 1 1 [.slice al nl cl, .slice none 0 0, .int .i64 ((nn : Int) + 1)] (by rfl) (by rfl) (by exact World.news_of_block (cs := #[.slice al nl cl, .slice none 0 0, .int .i64 ((nn : Int) + 1)]) (fr := (0, 0)) (heap_alloc_new W1 _)) (by simp [Value.oneCell']) (by decide) (by unfold maxLen; omega) (by omega) (by simp; omega) (W1.heap.size + 1) (by simp) ?_; intro g c w1 hown hgrow hat hglt; have hk1 : w1.cell? ⟨B, 1, none⟩ = some (.slice av m cv) := hgrow.cell (a := ⟨B, 1, none⟩) (by exact hbA _) hVB; have hk2 : w1.frozen? ⟨B, 1, none⟩ = false := (World.frozen?_of_block (a := ⟨B, 1, none⟩) (hgrow.block B (by simp; omega) hVB)).trans (by exact hfA _))
  all_goals
    go_wp2_with fail
    go_end0
    have hG := (World.grownBy_alloc W1 (.cells #[.slice al nl cl, .slice none 0 0, .int .i64 ((nn : Int) + 1)] 75) _).trans ⟨hgrow.os, hgrow.tape, hgrow.output, hgrow.size, hgrow.block⟩
    rw [HW1.out] at hG
    exact ⟨rfl, g, c, told_of (by decide) hbB HNC.out HBC.out HV.out hG (by rw [← HS1.out]; exact hat) hown⟩

/-- The entries, one behind the other, with their numbers. -/
def entsN (E : Nat → Value) (nu : Nat → Nat) : Nat → List Value
  | 0 => []
  | m + 1 => entsN E nu m ++ [E m, .slice none 0 0, .int .i64 (nu m : Int)]
theorem entsN_length (E : Nat → Value) (nu : Nat → Nat) : ∀ m, (entsN E nu m).length = m * 3
  | 0 => rfl
  | m + 1 => by rw [entsN, List.length_append, entsN_length E nu m]; simp; omega
theorem entsN_at (E : Nat → Value) (nu : Nat → Nat) : ∀ m i, i < m → (entsN E nu m)[i * 3]? = some (E i) ∧ (entsN E nu m)[i * 3 + 1]? = some (.slice none 0 0) ∧ (entsN E nu m)[i * 3 + 2]? = some (.int .i64 (nu i : Int))
  | 0, i, h => absurd h (Nat.not_lt_zero _)
  | m + 1, i, h => by
    rw [entsN]
    have hl := entsN_length E nu m
    by_cases him : i < m
    · obtain ⟨h1, h2, h3⟩ := entsN_at E nu m i him
      rw [List.getElem?_append_left (by omega), List.getElem?_append_left (by omega), List.getElem?_append_left (by omega)]
      exact ⟨h1, h2, h3⟩
    · have him2 : i = m := by omega
      subst him2
      rw [List.getElem?_append_right (by omega), List.getElem?_append_right (by omega), List.getElem?_append_right (by omega), hl, Nat.sub_self, Nat.add_sub_cancel_left, Nat.add_sub_cancel_left]
      exact ⟨rfl, rfl, rfl⟩
theorem entsN_congr {E F : Nat → Value} {nu mu : Nat → Nat} : ∀ m, (∀ i, i < m → E i = F i ∧ nu i = mu i) → entsN E nu m = entsN F mu m
  | 0, _ => rfl
  | m + 1, h => by rw [entsN, entsN, entsN_congr m (fun i hi => h i (by omega)), (h m (by omega)).1, (h m (by omega)).2]
/-- One more is told. -/
def upd {α : Type} (f : Nat → α) (m : Nat) (x : α) : Nat → α := fun i => if i = m then x else f i
theorem upd_at {α : Type} (f : Nat → α) (m : Nat) (x : α) : upd f m x m = x := if_pos rfl
theorem upd_lt {α : Type} (f : Nat → α) {m i : Nat} (x : α) (h : i < m) : upd f m x i = f i := if_neg (by omega)

/-- What the book in block B holds of one kind: its cell j, m entries, the lists, older or newer than the book. -/
structure Hd (S B j HT T z m : Nat) (V : Value) (E : Nat → Value) (nu N : Nat → Nat) (F : Nat → List Value) (W : World) : Prop where
  b : W.cell? ⟨B, j, none⟩ = some V
  nil : m = 0 → V = .slice none 0 0
  ent : W.ownsRow S HT 3 V m (entsN E nu m)
  vB : ∀ k, V.ownBlock = some k → B < k
  rows : ∀ i, i < m → W.ownsRow S T z (E i) (N i) (F i)
  eB : ∀ i, i < m → ∀ k, (E i).ownBlock = some k → k ≠ B ∧ V.ownBlock ≠ some k
  ee : ∀ i j, i < m → j < m → i ≠ j → (E i).ownBlock = none ∨ (E i).ownBlock ≠ (E j).ownBlock
section
variable {S B j HT T z m nn nl : Nat} {V l : Value} {E : Nat → Value} {nu N : Nat → Nat} {F : Nat → List Value} {xl : List Value} {W W' : World} {g c : Nat}
/-- A list of this kind was told. -/
theorem Hd.told (h : Hd S B j HT T z m V E nu N F W) (hbB : B < W.heap.size) (t : Told S B j HT nn m V l (entsN E nu m) W W' g c) (hl : W.ownsRow S T z l nl xl) (hlB : ∀ k, l.ownBlock = some k → k ≠ B ∧ V.ownBlock ≠ some k) (hle : ∀ i, i < m → (E i).ownBlock = none ∨ (E i).ownBlock ≠ l.ownBlock) :
    Hd S B j HT T z (m + 1) (.slice (some ⟨g, 0, none⟩) (m + 1) c) (upd E m l) (upd nu m (nn + 1)) (upd N m nl) (upd F m xl) W' := by
  have low : ∀ k, k ≠ B ∧ V.ownBlock ≠ some k → ¬ (k = B ∨ V.ownBlock = some k) := fun k hk e => by
    rcases e with e | e
    · exact hk.1 e
    · exact hk.2 e
  have gnew : ∀ k, k < W.heap.size → V.ownBlock ≠ some k → (Value.slice (some ⟨g, 0, none⟩) (m + 1) c).ownBlock ≠ some k := fun k h1 h2 e => by
    injection e with e
    have e2 : g = k := e
    rcases t.at_ with q | q
    · exact h2 (e2 ▸ q)
    · omega
  refine ⟨t.b, fun e => absurd e (Nat.succ_ne_zero _), ?_, fun k e => ?_, fun i hi => ?_, fun i hi k e => ?_, fun i q hi hq hiq => ?_⟩
  · have e : entsN (upd E m l) (upd nu m (nn + 1)) (m + 1) = entsN E nu m ++ [l, .slice none 0 0, .int .i64 ((nn : Int) + 1)] := by
      rw [entsN, upd_at, upd_at, entsN_congr m (F := E) (mu := nu) (fun i hi => ⟨upd_lt E l hi, upd_lt nu _ hi⟩)]
      rfl
    rw [e]
    exact t.ent
  · injection e with e
    have e2 : g = k := e
    rcases t.at_ with h1 | h1
    · have := h.vB g h1; omega
    · omega
  · by_cases him : i = m
    · rw [him, upd_at, upd_at, upd_at]; exact own_keepP hl t.keep (fun b e => low b (hlB b e))
    · rw [upd_lt E l (by omega), upd_lt N nl (by omega), upd_lt F xl (by omega)]; exact own_keepP (h.rows i (by omega)) t.keep (fun b e => low b (h.eB i (by omega) b e))
  · by_cases him : i = m
    · rw [him, upd_at] at e; exact ⟨(hlB k e).1, gnew k (hl.lt k e).2 (hlB k e).2⟩
    · rw [upd_lt E l (by omega)] at e; exact ⟨(h.eB i (by omega) k e).1, gnew k ((h.rows i (by omega)).lt k e).2 (h.eB i (by omega) k e).2⟩
  · by_cases him : i = m
    · by_cases hqm : q = m
      · omega
      · rw [him, upd_at, upd_lt E l (by omega)]
        cases hlo : l.ownBlock with
        | none => exact .inl rfl
        | some k =>
          right
          rcases hle q (by omega) with h1 | h1
          · rw [h1]; simp
          · rw [hlo] at h1; exact fun e => h1 e.symm
    · rw [upd_lt E l (by omega)]
      by_cases hqm : q = m
      · rw [hqm, upd_at]; exact hle i (by omega)
      · rw [upd_lt E l (by omega)]; exact h.ee i q (by omega) (by omega) hiq
end
/-- What the book is when its lists of this kind are filled. -/
theorem Hd.stByte {S B m : Nat} {V : Value} {E : Nat → Value} {nu N : Nat → Nat} {X : Nat → List Value} {w0 W : World} (h : Hd S B 1 75 5 1 m V E nu N (fun i => X i) W) (hm : 0 < m) (hSB : S ≤ B) (hbB : B < W.heap.size) (hb : Below S w0 W) :
    ∃ hh cap, Sep S B hh m E ∧ Bb.St S B hh m cap nu E N (fun _ => .slice none 0 0) X w0 W ∧ V.ownBlock = some hh ∧ hh < W.heap.size := by
  obtain ⟨hh, cap, rfl, hSh, hlt⟩ := h.ent.form hm
  have hBh := h.vB hh rfl
  have hcell := h.ent.cells (g := hh) rfl
  have hadd : ∀ q, (⟨hh, 0, none⟩ : Addr).add q = ⟨hh, q, none⟩ := fun q => by rw [Addr.add_lit]; simp
  refine ⟨hh, cap, ⟨hSB, hSh, by omega, fun i hi e => ?_, fun i hi e => ?_, h.ee⟩, ⟨by omega, hbB, hlt, h.b, fun i hi => ?_, fun i hi => ?_, fun i hi => ?_, fun q => h.ent.frozenAt q, h.rows, hb⟩, rfl, hlt⟩
  · exact (h.eB i hi B e).1 rfl
  · exact (h.eB i hi hh e).2 rfl
  · have := hcell (i * 3) _ (entsN_at E nu m i hi).1; rw [hadd] at this; exact this
  · have := hcell (i * 3 + 1) _ (entsN_at E nu m i hi).2.1; rw [hadd] at this; exact this
  · have := hcell (i * 3 + 2) _ (entsN_at E nu m i hi).2.2; rw [hadd] at this; exact this
/-- What this kind keeps to, whether there are lists of it or not. -/
theorem Hd.isByte {S B m : Nat} {V : Value} {E : Nat → Value} {nu N : Nat → Nat} {X : Nat → List Value} {w0 W : World} (h : Hd S B 1 75 5 1 m V E nu N (fun i => X i) W) (hSB : S ≤ B) (hbB : B < W.heap.size) (hb : Below S w0 W) (hm : m ≤ 1000) (hnu : ∀ i, i < m → nu i ≤ 5000000) (hN : ∀ i, i < m → N i ≤ 5000000) :
    ∃ (st : Nat → Prop) (k : Kind S B W.heap.size 26 38 50 st), k.K 0 W ∧ ∀ b, st b → Bq.OwnB m E b ∨ V.ownBlock = some b := by
  rcases Nat.eq_zero_or_pos m with h0 | h0
  · exact ⟨_, noneByte S B W.heap.size, ⟨by rw [h.b, h.nil h0], hbB⟩, fun b e => e.elim⟩
  · obtain ⟨hh, cap, sep, s, hv, hlt⟩ := h.stByte (w0 := w0) h0 hSB hbB hb
    refine ⟨_, kindByte S B W.heap.size hh m cap nu E N X w0 hnu hm hN sep (fun i hi b e => (h.rows i hi).lt b e) hlt, s, fun b e => ?_⟩
    rcases e with e | rfl
    · exact .inl e
    · exact .inr hv
theorem new_cell (W : World) (t : TypeId) : ∀ j, 1 ≤ j → j < 13 → (W.alloc (.cells #[.int .i64 0, .slice none 0 0, .slice none 0 0, .slice none 0 0, .slice none 0 0, .slice none 0 0, .slice none 0 0, .slice none 0 0, .slice none 0 0, .slice none 0 0, .slice none 0 0, .slice none 0 0, .slice none 0 0] t)).cell? ⟨W.heap.size, j, none⟩ = some (.slice none 0 0) := fun j h1 h2 => by
  have : j = 1 ∨ j = 2 ∨ j = 3 ∨ j = 4 ∨ j = 5 ∨ j = 6 ∨ j = 7 ∨ j = 8 ∨ j = 9 ∨ j = 10 ∨ j = 11 ∨ j = 12 := by omega
  rcases this with rfl | rfl | rfl | rfl | rfl | rfl | rfl | rfl | rfl | rfl | rfl | rfl <;> simp
theorem new_count (W : World) (t : TypeId) : (W.alloc (.cells #[.int .i64 0, .slice none 0 0, .slice none 0 0, .slice none 0 0, .slice none 0 0, .slice none 0 0, .slice none 0 0, .slice none 0 0, .slice none 0 0, .slice none 0 0, .slice none 0 0, .slice none 0 0, .slice none 0 0] t)).cell? ⟨W.heap.size, 0, none⟩ = some (.int .i64 ((0 : Nat) : Int)) := by simp
theorem new_frozen (W : World) (t : TypeId) (j : Nat) : (W.alloc (.cells #[.int .i64 0, .slice none 0 0, .slice none 0 0, .slice none 0 0, .slice none 0 0, .slice none 0 0, .slice none 0 0, .slice none 0 0, .slice none 0 0, .slice none 0 0, .slice none 0 0, .slice none 0 0, .slice none 0 0] t)).frozen? ⟨W.heap.size, j, none⟩ = false := World.frozen?_alloc_new _ _ _ _
/-- An empty book holds nothing of any kind. -/
theorem Hd.new (S : Nat) (W : World) (t : TypeId) (j HT T z : Nat) (h1 : 1 ≤ j) (h2 : j < 13) (E : Nat → Value) (nu N : Nat → Nat) (F : Nat → List Value) : Hd S W.heap.size j HT T z 0 (.slice none 0 0) E nu N F (W.alloc (.cells #[.int .i64 0, .slice none 0 0, .slice none 0 0, .slice none 0 0, .slice none 0 0, .slice none 0 0, .slice none 0 0, .slice none 0 0, .slice none 0 0, .slice none 0 0, .slice none 0 0, .slice none 0 0, .slice none 0 0] t)) :=
  ⟨new_cell W t j h1 h2, fun _ => rfl, World.ownsRow_nil _ _ _ _, fun k e => (by cases e), fun i hi => absurd hi (Nat.not_lt_zero _), fun i hi => absurd hi (Nat.not_lt_zero _), fun i j hi => absurd hi (Nat.not_lt_zero _)⟩

set_option maxRecDepth 20000 in
theorem toldBytes (S B nn m : Nat) (V : Value) (es : List Value) (W : World) (al : Option Addr) (nl cl : Nat) (hm : m ≤ 100000) (hnn : nn ≤ 5000000) (hn : W.cell? ⟨B, 0, none⟩ = some (.int .i64 (nn : Int))) (hb : W.cell? ⟨B, 1, none⟩ = some V) (hfz : ∀ q, W.frozen? ⟨B, q, none⟩ = false) (hbB : B < W.heap.size) (hSW : S ≤ W.heap.size) (ent : W.ownsRow S 75 3 V m es) (hVB : ∀ k, V.ownBlock = some k → B < k) :
    Calls Tryd.prog 14 #[.pointer (some ⟨B, 0, none⟩), .slice al nl cl] W fun e w' => e = .returned (.tuple #[]) ∧ ∃ g c, Told S B 1 75 nn m V (.slice al nl cl) es W w' g c := by
  have HC := veil (tellByte S B nn m V es W al nl cl hm hnn hn hb hfz hbB hSW ent hVB)
  clear hn hb hfz ent hVB
  go_enter Tryd.func14, Tryd.ntmps14
  go_wp2_with fail
  refine HC.out.mono ?_
  rintro e w' ⟨rfl, h⟩
  go_wp2_with fail
  go_end0
  exact ⟨rfl, h⟩


/-- A book that was told n lists of bytes, with its blocks. -/
structure BkI (S B n : Nat) (own : Nat → Prop) (W : World) : Prop where
  ex : ∃ (V : Value) (E : Nat → Value) (nu N : Nat → Nat) (X : Nat → List Value), Hd S B 1 75 5 1 n V E nu N (fun i => X i) W ∧ (∀ i, i < n → nu i ≤ 5000000) ∧ (∀ i, i < n → N i ≤ 5000000) ∧ (∀ b, V.ownBlock = some b ∨ Bq.OwnB n E b → own b)
  cnt : W.cell? ⟨B, 0, none⟩ = some (.int .i64 (n : Int))
  em : ∀ j, 2 ≤ j → j < 13 → W.cell? ⟨B, j, none⟩ = some (.slice none 0 0)
  fz : ∀ j, W.frozen? ⟨B, j, none⟩ = false
  SB : S ≤ B
  bB : B < W.heap.size
  oB : own B
theorem BkI.keep {S B n : Nat} {own st : Nat → Prop} {W W' : World} (h : BkI S B n own W) (k : KeepP st W W') (hs : ∀ b, own b → ¬ st b) : BkI S B n own W' := by
  have hb : W'.heap[B]? = W.heap[B]? := k.block B h.bB (hs B h.oB)
  obtain ⟨⟨V, E, nu, N, X, hd, h1, h2, h3⟩, h4, h5, h6, h7, h8, h9⟩ := h
  refine ⟨⟨V, E, nu, N, X, ⟨(World.cell?_of_block (a := ⟨B, 1, none⟩) hb).trans hd.b, hd.nil, own_keepP hd.ent k (fun b e => hs b (h3 b (.inl e))), hd.vB, fun i hi => own_keepP (hd.rows i hi) k (fun b e => hs b (h3 b (.inr ⟨i, hi, e⟩))), hd.eB, hd.ee⟩, h1, h2, h3⟩, (World.cell?_of_block (a := ⟨B, 0, none⟩) hb).trans h4, fun j q1 q2 => (World.cell?_of_block (a := ⟨B, j, none⟩) hb).trans (h5 j q1 q2), fun j => (World.frozen?_of_block (a := ⟨B, j, none⟩) hb).trans (h6 j), h7, Nat.lt_of_lt_of_le h8 k.size, h9⟩
theorem BkI.below {S B n : Nat} {own : Nat → Prop} {W W' : World} (h : BkI S B n own W) (hb : Below W.heap.size W W') : BkI S B n own W' := h.keep (st := fun _ => False) (KeepP.of_below hb) (fun _ _ e => e)
/-- A list that the book does not know is told. -/
theorem tell_any (S B n : Nat) (own : Nat → Prop) (W : World) (al : Option Addr) (nl cl : Nat) (xl : List Value) (h : BkI S B n own W) (hn : n ≤ 900) (hl : W.ownsRow S 5 1 (.slice al nl cl) nl xl) (hnl : nl ≤ 5000000) (hx : ∀ k, (Value.slice al nl cl).ownBlock = some k → ¬ own k) :
    Calls Tryd.prog 14 #[.pointer (some ⟨B, 0, none⟩), .slice al nl cl] W fun e w' => e = .returned (.tuple #[]) ∧ KeepP own W w' ∧ ∃ own' : Nat → Prop, BkI S B (n + 1) own' w' ∧ ∀ b, own' b → own b ∨ (Value.slice al nl cl).ownBlock = some b ∨ W.heap.size ≤ b := by
  obtain ⟨⟨V, E, nu, N, X, hd, h1, h2, h3⟩, h4, h5, h6, h7, h8, h9⟩ := h
  refine (toldBytes S B n n V _ W al nl cl (by omega) (by omega) h4 hd.b h6 h8 (by omega) hd.ent hd.vB).mono ?_
  rintro e w' ⟨rfl, g, c, t⟩
  have hd' := hd.told h8 t hl (fun k e => ⟨fun e2 => hx k e (e2 ▸ h9), fun e2 => hx k e (h3 k (.inl e2))⟩) (fun i hi => by
    cases he : (E i).ownBlock with
    | none => exact .inl rfl
    | some b => exact .inr (fun e2 => hx b e2.symm (h3 b (.inr ⟨i, hi, he⟩))))
  refine ⟨rfl, ⟨t.keep.os, t.keep.tape, t.keep.output, t.keep.size, fun b hb hn => t.keep.block b hb (fun e => hn ?_)⟩, fun b => own b ∨ (Value.slice al nl cl).ownBlock = some b ∨ W.heap.size ≤ b, ⟨⟨.slice (some ⟨g, 0, none⟩) (n + 1) c, upd E n (.slice al nl cl), upd nu n (n + 1), upd N n nl, upd X n xl, hd', fun i hi => ?_, fun i hi => ?_, fun b e => ?_⟩, t.n, fun j q1 q2 => (t.oth j (by omega) (by omega)).trans (h5 j q1 q2), fun j => (t.fz j).trans (h6 j), h7, Nat.lt_of_lt_of_le h8 t.keep.size, .inl h9⟩, fun b e => e⟩
  · rcases e with e | e
    · exact e ▸ h9
    · exact h3 b (.inl e)
  · by_cases e : i = n
    · rw [e, upd_at]; omega
    · rw [upd_lt nu _ (by omega)]; exact h1 i (by omega)
  · by_cases e : i = n
    · rw [e, upd_at]; exact hnl
    · rw [upd_lt N _ (by omega)]; exact h2 i (by omega)
  · rcases e with e | ⟨i, hi, e⟩
    · injection e with e
      have e2 : g = b := e
      rcases t.at_ with q | q
      · exact .inl (h3 b (.inl (e2 ▸ q)))
      · exact .inr (.inr (by omega))
    · by_cases e3 : i = n
      · rw [e3, upd_at] at e; exact .inr (.inl e)
      · rw [upd_lt E _ (by omega)] at e; exact .inl (h3 b (.inr ⟨i, by omega, e⟩))
/-- An empty book. -/
theorem BkI.new (S : Nat) (W : World) (t : TypeId) (hS : S ≤ W.heap.size) : BkI S W.heap.size 0 (fun b => b = W.heap.size) (W.alloc (.cells #[.int .i64 0, .slice none 0 0, .slice none 0 0, .slice none 0 0, .slice none 0 0, .slice none 0 0, .slice none 0 0, .slice none 0 0, .slice none 0 0, .slice none 0 0, .slice none 0 0, .slice none 0 0, .slice none 0 0] t)) :=
  ⟨⟨.slice none 0 0, fun _ => .slice none 0 0, fun _ => 0, fun _ => 0, fun _ => [], Hd.new S W t 1 _ _ _ (by decide) (by decide) _ _ _ _, fun i hi => absurd hi (Nat.not_lt_zero _), fun i hi => absurd hi (Nat.not_lt_zero _), fun b e => by
    rcases e with e | ⟨i, hi, _⟩
    · cases e
    · exact absurd hi (Nat.not_lt_zero _)⟩, new_count W t, fun j h1 h2 => new_cell W t j (by omega) h2, new_frozen W t, hS, by simp, rfl⟩
/-- What it was told is apart. -/
theorem apart_any (S B n : Nat) (own : Nat → Prop) (W : World) (h : BkI S B n own W) (hn : n ≤ 1000) :
    Calls Tryd.prog 21 #[.pointer (some ⟨B, 0, none⟩)] W fun e w' => e = .returned (.bool true) ∧ KeepP own W w' := by
  obtain ⟨⟨V, E, nu, N, X, hd, h1, h2, h3⟩, h4, h5, h6, h7, h8, h9⟩ := h
  obtain ⟨sb, kb, k1, s1⟩ := hd.isByte (w0 := W) h7 h8 (Below.refl _ _) hn h1 h2
  refine Calls.mono (apart3 kb (noneRange S B W.heap.size) (noneFrame S B W.heap.size) (fun b _ e => e) (fun b _ e => e) (fun b e => e.elim) W W ⟨k1, ⟨h5 6 (by decide) (by decide), h8⟩, ⟨h5 7 (by decide) (by decide), h8⟩, fun j q1 q2 q3 _ _ => h5 j (by omega) q2, h8, Nat.le_refl _, by omega, Below.refl _ _⟩) ?_
  rintro e w' ⟨rfl, _, k⟩
  refine ⟨rfl, k.os, k.tape, k.output, k.size, fun b hb hn => k.block b hb (fun e => ?_)⟩
  rcases e with e | e | e
  · rcases s1 b e with q | q
    · exact hn (h3 b (.inr q))
    · exact hn (h3 b (.inl q))
  · exact e
  · exact e
end Go.Proofs.YtekgdljbninjiaaDoor.Ba
