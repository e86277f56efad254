/-
  What a Book of lists of bytes holds while lists are told to it.
-/
import Derived.Test.YtdoojlffejjbaaaDoorLook
import Derived.Deep.AppendLies
import Derived.Deep.RegionLaw
import Derived.BigRegion
namespace Go.Proofs.YtdoojlffejjbaaaDoor
open Go.RowKit

theorem Tryd.infoHeld : (Tryd.prog.info? 67).map (fun i => (i.zero, i.size, i.bytes)) = some (some (.agg #[.slice none 0 0, .slice none 0 0, .int .i64 0]), 3, 56) := by kernel_rfl

/-- The entries, one behind the other. -/
def ents (E : Nat → Value) : Nat → List Value
  | 0 => []
  | m + 1 => ents E m ++ [E m, .slice none 0 0, .int .i64 ((m : Int) + 1)]

theorem ents_length (E : Nat → Value) : ∀ m, (ents E m).length = m * 3
  | 0 => rfl
  | m + 1 => by rw [ents, List.length_append, ents_length E m]; simp; omega

theorem ents_at (E : Nat → Value) : ∀ m i, i < m → (ents E m)[i * 3]? = some (E i) ∧ (ents E m)[i * 3 + 1]? = some (.slice none 0 0) ∧ (ents E m)[i * 3 + 2]? = some (.int .i64 ((i : Int) + 1))
  | 0, i, h => absurd h (Nat.not_lt_zero _)
  | m + 1, i, h => by
    rw [ents]
    by_cases him : i < m
    · have hl := ents_length E m
      obtain ⟨h1, h2, h3⟩ := ents_at E m i him
      rw [List.getElem?_append_left (by omega), List.getElem?_append_left (by omega), List.getElem?_append_left (by omega)]
      exact ⟨h1, h2, h3⟩
    · have him2 : i = m := by omega
      subst him2
      have hl := ents_length E i
      rw [List.getElem?_append_right (by omega), List.getElem?_append_right (by omega), List.getElem?_append_right (by omega), hl, Nat.sub_self, Nat.add_sub_cancel_left, Nat.add_sub_cancel_left]
      exact ⟨rfl, rfl, rfl⟩

theorem ents_congr {E F : Nat → Value} : ∀ m, (∀ i, i < m → E i = F i) → ents E m = ents F m
  | 0, _ => rfl
  | m + 1, h => by rw [ents, ents, ents_congr m (fun i hi => h i (by omega)), h m (by omega)]

/-- One more is told. -/
def upd {α : Type} (f : Nat → α) (m : Nat) (x : α) : Nat → α := fun i => if i = m then x else f i

theorem upd_at {α : Type} (f : Nat → α) (m : Nat) (x : α) : upd f m x m = x := if_pos rfl
theorem upd_lt {α : Type} (f : Nat → α) {m i : Nat} (x : α) (h : i < m) : upd f m x i = f i := if_neg (by omega)

/-- The book in block B, told nn lists so far, m of them written; all lists are older than the book. -/
structure Bk (S B nn m : Nat) (V : Value) (E : Nat → Value) (N : Nat → Nat) (X : Nat → List Value) (w0 W : World) : Prop where
  SB : S ≤ B
  bB : B < W.heap.size
  n : W.cell? ⟨B, 0, none⟩ = some (.int .i64 nn)
  b : W.cell? ⟨B, 1, none⟩ = some V
  em : ∀ j, 2 ≤ j → j < 13 → W.cell? ⟨B, j, none⟩ = some (.slice none 0 0)
  fz : ∀ j, W.frozen? ⟨B, j, none⟩ = false
  ent : W.ownsRow S 67 3 V m (ents E m)
  vB : ∀ k, V.ownBlock = some k → B < k
  eB : ∀ i, i < m → ∀ k, (E i).ownBlock = some k → k < B
  ee : ∀ i j, i < m → j < m → i ≠ j → (E i).ownBlock = none ∨ (E i).ownBlock ≠ (E j).ownBlock
  rows : ∀ i, i < m → W.ownsRow S 5 1 (E i) (N i) (X i)
  below : Below S w0 W

/-- All but the book's own cells, and its entries, is as it was. -/
theorem Bk.tick {S B nn m : Nat} {V : Value} {E : Nat → Value} {N : Nat → Nat} {X : Nat → List Value} {w0 W : World} (st : Bk S B nn m V E N X w0 W) (nn' : Nat) : Bk S B nn' m V E N X w0 (W.setCell ⟨B, 0, none⟩ (.int .i64 nn')) := by
  have hgr : W.grownBy (W.setCell ⟨B, 0, none⟩ (.int .i64 nn')) (some B) := ⟨rfl, rfl, rfl, by simp, fun b _ hb => Below.heap_setCell _ _ _ b (fun e => hb (by rw [e]))⟩
  refine ⟨st.SB, Nat.lt_of_lt_of_le st.bB hgr.size, World.cell?_setCell_same _ _ _ st.n, ?_, fun j h1 h2 => ?_, fun j => ?_, st.ent.kept hgr ?_, st.vB, st.eB, st.ee, fun i hi => (st.rows i hi).kept hgr (.inr ?_), st.below.setCell (p := ⟨B, 0, none⟩) st.SB _⟩
  · rw [World.cell?_setCell_other _ _ _ _ (by intro e; injection e; omega)]; exact st.b
  · rw [World.cell?_setCell_other _ _ _ _ (by intro e; injection e; omega)]; exact st.em j h1 h2
  · rw [World.frozen?_setCell]; exact st.fz j
  · right
    intro e
    have := st.vB B e
    omega
  · intro e
    have := st.eB i hi B e
    omega

/-- Lists that lie below the book stay what they were. -/
def Holds (S B : Nat) (W W' : World) : Prop := ∀ (v : Value) (n : Nat) (xs : List Value), W.ownsRow S 5 1 v n xs → (∀ k, v.ownBlock = some k → k < B) → W'.ownsRow S 5 1 v n xs

/-- The longer list of entries is laid into the book. -/
theorem Bk.told {S B nn m c H : Nat} {V : Value} {E : Nat → Value} {N : Nat → Nat} {X : Nat → List Value} {w0 W W' : World} {g nl : Nat} {l : Value} {xl : List Value} (st : Bk S B nn m V E N X w0 W) (hl : W.ownsRow S 5 1 l nl xl) (hlB : ∀ k, l.ownBlock = some k → k < B) (hle : ∀ i, i < m → (E i).ownBlock = none ∨ (E i).ownBlock ≠ l.ownBlock) (hSW : S ≤ W.heap.size)
    (hH : W.heap.size ≤ H) (hgr : W.grownBy W' V.ownBlock) (hat : V.ownBlock = some g ∨ g = H) (hown : W'.ownsRow S 67 3 (.slice (some ⟨g, 0, none⟩) (m + 1) c) (m + 1) (ents E m ++ [l, .slice none 0 0, .int .i64 ((m : Int) + 1)])) :
    Bk S B nn (m + 1) (.slice (some ⟨g, 0, none⟩) (m + 1) c) (upd E m l) (upd N m nl) (upd X m xl) w0 (W'.setCell ⟨B, 1, none⟩ (.slice (some ⟨g, 0, none⟩) (m + 1) c)) ∧ Holds S B W (W'.setCell ⟨B, 1, none⟩ (.slice (some ⟨g, 0, none⟩) (m + 1) c)) := by
  have hVB : some B ≠ V.ownBlock := by
    intro e
    have := st.vB B e.symm
    omega
  have hBg : B < g := by
    rcases hat with h | h
    · exact st.vB g h
    · have := st.bB; omega
  have hgr2 : W'.grownBy (W'.setCell ⟨B, 1, none⟩ (.slice (some ⟨g, 0, none⟩) (m + 1) c)) (some B) := ⟨rfl, rfl, rfl, by simp, fun b _ hb => Below.heap_setCell _ _ _ b (fun e => hb (by rw [e]))⟩
  have hold : ∀ {v : Value} {n : Nat} {xs : List Value}, W.ownsRow S 5 1 v n xs → (∀ k, v.ownBlock = some k → k < B) → (W'.setCell ⟨B, 1, none⟩ (.slice (some ⟨g, 0, none⟩) (m + 1) c)).ownsRow S 5 1 v n xs := by
    intro v n xs hv hk
    refine (hv.kept hgr ?_).kept hgr2 (.inr ?_)
    · cases hvo : v.ownBlock with
      | none => exact .inl rfl
      | some k =>
        right
        intro e
        have h1 := hk k hvo
        have h2 := st.vB k e.symm
        omega
    · intro e
      have := hk B e
      omega
  refine ⟨?_, fun v n xs h1 h2 => hold h1 h2⟩
  refine ⟨st.SB, Nat.lt_of_lt_of_le (Nat.lt_of_lt_of_le st.bB hgr.size) hgr2.size, ?_, World.cell?_setCell_same _ _ _ (hgr.cell st.b hVB), fun j h1 h2 => ?_, fun j => ?_, ?_, fun k e => ?_, fun i hi k e => ?_, fun i j hi hj hij => ?_, fun i hi => ?_, (st.below.grown hgr hSW (fun k e => by have := st.vB k e; have := st.SB; omega)).setCell (p := ⟨B, 1, none⟩) st.SB _⟩
  · rw [World.cell?_setCell_other _ _ _ _ (by intro e; injection e; omega)]; exact hgr.cell st.n hVB
  · rw [World.cell?_setCell_other _ _ _ _ (by intro e; injection e; omega)]; exact hgr.cell (st.em j h1 h2) hVB
  · rw [World.frozen?_setCell]; exact (World.frozen?_of_block (w := W) (a := ⟨B, j, none⟩) (hgr.block B st.bB hVB)).trans (st.fz j)
  · have e : ents (upd E m l) (m + 1) = ents E m ++ [l, .slice none 0 0, .int .i64 ((m : Int) + 1)] := by
      rw [ents, upd_at, ents_congr m (F := E) (fun i hi => upd_lt E l hi)]
    rw [e]
    refine hown.kept hgr2 (.inr ?_)
    intro e
    injection e with e
    have e2 : g = B := e
    omega
  · injection e with e
    have e2 : g = k := e
    omega
  · by_cases him : i = m
    · rw [him, upd_at] at e; exact hlB k e
    · rw [upd_lt E l (by omega)] at e; exact st.eB i (by omega) k e
  · by_cases him : i = m
    · by_cases hjm : j = m
      · omega
      · rw [him, upd_at, upd_lt E l (by omega)]
        cases hlo : l.ownBlock with
        | none => exact .inl rfl
        | some k =>
          right
          rcases hle j (by omega) with h1 | h1
          · rw [h1]; simp
          · rw [hlo] at h1; exact fun e => h1 e.symm
    · rw [upd_lt E l (by omega)]
      by_cases hjm : j = m
      · rw [hjm, upd_at]; exact hle i (by omega)
      · rw [upd_lt E l (by omega)]; exact st.ee i j (by omega) (by omega) hij
  · by_cases him : i = m
    · rw [him, upd_at, upd_at, upd_at]; exact hold hl hlB
    · rw [upd_lt E l (by omega), upd_lt N nl (by omega), upd_lt X xl (by omega)]; exact hold (st.rows i (by omega)) (st.eB i (by omega))

set_option maxRecDepth 20000 in
set_option maxHeartbeats 2000000 in
theorem keep_any (S B m : Nat) (V : Value) (E : Nat → Value) (N : Nat → Nat) (X : Nat → List Value) (w0 W : World) (l : Value) (nl : Nat) (xl : List Value) (hm : m ≤ 1000) (st : Bk S B m m V E N X w0 W) (hl : W.ownsRow S 5 1 l nl xl) (hlB : ∀ k, l.ownBlock = some k → k < B) (hle : ∀ i, i < m → (E i).ownBlock = none ∨ (E i).ownBlock ≠ l.ownBlock) :
    Calls Tryd.prog 22 #[.pointer (some ⟨B, 0, none⟩), l] W fun e w' => e = .returned (.tuple #[]) ∧ ∃ V', Bk S B (m + 1) (m + 1) V' (upd E m l) (upd N m nl) (upd X m xl) w0 w' ∧ Holds S B W w' := by
  obtain ⟨i0, hi, hz0, hz1, hz2⟩ := info_parts Tryd.infoHeld
  obtain ⟨al, cl, rfl⟩ : ∃ al cl, l = .slice al nl cl := by
    rcases own_shape hl with ⟨h1, h2⟩ | ⟨g, c, h1, _⟩
    · exact ⟨none, 0, by rw [h1, h2]⟩
    · exact ⟨some ⟨g, 0, none⟩, c, h1⟩
  obtain ⟨av, cv, rfl⟩ : ∃ av cv, V = .slice av m cv := by
    rcases st.ent.2 with ⟨h1, h2⟩ | ⟨g, c, _, h1, _⟩
    · exact ⟨none, 0, by rw [h1, h2]⟩
    · exact ⟨some ⟨g, 0, none⟩, c, h1⟩
  have HST : Hid (Bk S B m m (.slice av m cv) E N X w0 W) := st
  have HL : Hid (W.ownsRow S 5 1 (.slice al nl cl) nl xl) := hl
  have HLB : Hid (∀ k, (Value.slice al nl cl).ownBlock = some k → k < B) := hlB
  have HLE : Hid (∀ i, i < m → (E i).ownBlock = none ∨ (E i).ownBlock ≠ (Value.slice al nl cl).ownBlock) := hle
  have hcn := st.n
  have hcb := st.b
  have hfz0 := st.fz 0
  have hfz1 := st.fz 1
  have hbB := st.bB
  have hSB := st.SB
  clear st hl hlB hle
  go_enter Tryd.func22, Tryd.ntmps22
  go_wp2_with fail
  obtain ⟨W1, hW1⟩ : ∃ W1, W1 = W.setCell ⟨B, 0, none⟩ (.int .i64 ((m : Int) + 1)) := ⟨_, rfl⟩
  rw [← hW1]
  have HT : Hid (Bk S B (m + 1) m (.slice av m cv) E N X w0 W1) := by
    rw [hW1]
    exact HST.out.tick (m + 1)
  have hgr0 : W.grownBy W1 (some B) := by
    rw [hW1]
    exact ⟨rfl, rfl, rfl, by simp, fun b _ hb => Below.heap_setCell _ _ _ b (fun e => hb (by rw [e]))⟩
  have HL1 : Hid (W1.ownsRow S 5 1 (.slice al nl cl) nl xl) := HL.out.kept hgr0 (.inr (fun e => by have := HLB.out B e; omega))
  have HH : Hid (Holds S B W W1) := fun v n xs h1 h2 => h1.kept hgr0 (.inr (fun e => by have := h2 B e; omega))
  have hn1 : W1.cell? ⟨B, 0, none⟩ = some (.int .i64 ((m : Int) + 1)) := HT.out.n
  have hb1 : W1.cell? ⟨B, 1, none⟩ = some (.slice av m cv) := HT.out.b
  have hf1 : W1.frozen? ⟨B, 1, none⟩ = false := HT.out.fz 1
  have hbB1 : B < W1.heap.size := HT.out.bB
  have hVB : some B ≠ (Value.slice av m cv).ownBlock := by
    intro e
    have := HT.out.vB B e.symm
    omega
  have hbA : ∀ o, (W1.alloc o).cell? ⟨B, 1, none⟩ = some (.slice av m cv) := fun o => (World.cell?_alloc_old _ _ _ (by show B ≠ _; omega)).trans hb1
  have hfA : ∀ o, (W1.alloc o).frozen? ⟨B, 1, none⟩ = false := fun o => (World.frozen?_of_block (w := W1) (a := ⟨B, 1, none⟩) ((World.grownBy_alloc W1 o none).block B hbB1 (by simp))).trans hf1
  clear hgr0 hW1 hcn hcb hfz0 hfz1 hbB HST HL
  go_region_law (refine step_append_lies _ (by rfl) _ _ 28 (by rfl) S 67 i0 _ 3 56 Tryd.underlying28 hi hz0 hz1 hz2 (by rfl) (by decide) (.slice av m cv) m (ents E m) (by rfl) (by exact (HT.out.ent.alloc _)) ⟨W1.heap.size, 0, none⟩ 1 1 [.slice al nl cl, .slice none 0 0, .int .i64 ((m : Int) + 1)] (by rfl) (by rfl) (by exact World.news_of_block (cs := #[.slice al nl cl, .slice none 0 0, .int .i64 ((m : Int) + 1)]) (fr := (0, 0)) (heap_alloc_new W1 _)) (by simp [Value.oneCell']) (by decide) (by unfold maxLen; omega) (by omega) (by simp; omega) (W1.heap.size + 1) (by simp) ?_; intro g c w1 hown hgrow hat hglt; have hk1 : w1.cell? ⟨B, 1, none⟩ = some (.slice av m cv) := hgrow.cell (a := ⟨B, 1, none⟩) (by exact hbA _) hVB; have hk2 : w1.frozen? ⟨B, 1, none⟩ = false := (World.frozen?_of_block (a := ⟨B, 1, none⟩) (hgrow.block B (by simp; omega) hVB)).trans (by exact hfA _))
  all_goals
    go_wp2_with fail
    go_end0
    obtain ⟨k1, k2⟩ := HT.out.told HL1.out HLB.out HLE.out (by omega) (Nat.le_succ _) ((World.grownBy_alloc W1 (.cells #[.slice al nl cl, .slice none 0 0, .int .i64 ((m : Int) + 1)] 67) _).trans ⟨hgrow.os, hgrow.tape, hgrow.output, hgrow.size, hgrow.block⟩) hat hown
    exact ⟨rfl, .slice (some ⟨g, 0, none⟩) (m + 1) c, k1, fun v n xs h1 h2 => k2 v n xs (HH.out v n xs h1 h2) h2⟩

theorem bytes_any (S B m : Nat) (V : Value) (E : Nat → Value) (N : Nat → Nat) (X : Nat → List Value) (w0 W : World) (l : Value) (nl : Nat) (xl : List Value) (hm : m ≤ 1000) (st : Bk S B m m V E N X w0 W) (hl : W.ownsRow S 5 1 l nl xl) (hlB : ∀ k, l.ownBlock = some k → k < B) (hle : ∀ i, i < m → (E i).ownBlock = none ∨ (E i).ownBlock ≠ l.ownBlock) :
    Calls Tryd.prog 11 #[.pointer (some ⟨B, 0, none⟩), l] W fun e w' => e = .returned (.tuple #[]) ∧ ∃ V', Bk S B (m + 1) (m + 1) V' (upd E m l) (upd N m nl) (upd X m xl) w0 w' ∧ Holds S B W w' := by
  go_enter Tryd.func11, Tryd.ntmps11
  go_wp2_with fail
  refine (keep_any S B m V E N X w0 W l nl xl hm st hl hlB hle).mono ?_
  rintro e w' ⟨rfl, h⟩
  go_wp2_with fail
  go_end0
  exact ⟨rfl, h⟩

/-- An empty book. -/
theorem Bk.new (S : Nat) (E : Nat → Value) (N : Nat → Nat) (X : Nat → List Value) (w0 W : World) (hS : S ≤ W.heap.size) (hb : Below S w0 W) (t : TypeId) :
    Bk S W.heap.size 0 0 (.slice none 0 0) E N X w0 (W.alloc (.cells #[.int .i64 0, .slice none 0 0, .slice none 0 0, .slice none 0 0, .slice none 0 0, .slice none 0 0, .slice none 0 0, .slice none 0 0, .slice none 0 0, .slice none 0 0, .slice none 0 0, .slice none 0 0, .slice none 0 0] t)) := by
  refine ⟨hS, by simp, by simp, by simp, fun j h1 h2 => ?_, fun j => ?_, World.ownsRow_nil _ _ _ _, fun k e => (by cases e), fun i hi => absurd hi (Nat.not_lt_zero _), fun i j hi => absurd hi (Nat.not_lt_zero _), fun i hi => absurd hi (Nat.not_lt_zero _), hb.alloc hS _⟩
  · have : j = 2 ∨ j = 3 ∨ j = 4 ∨ j = 5 ∨ j = 6 ∨ j = 7 ∨ j = 8 ∨ j = 9 ∨ j = 10 ∨ j = 11 ∨ j = 12 := by omega
    rcases this with rfl | rfl | rfl | rfl | rfl | rfl | rfl | rfl | rfl | rfl | rfl <;> simp
  · exact World.frozen?_alloc_new _ _ _ _

/-- What the book is when its lists are filled. -/
theorem Bk.st {S B m : Nat} {V : Value} {E : Nat → Value} {N : Nat → Nat} {X : Nat → List Value} {w0 W : World} (st : Bk S B m m V E N X w0 W) (hm : 0 < m) :
    ∃ h cap, Sep S B h m E ∧ St S B h m cap E N (fun _ => .slice none 0 0) X w0 W := by
  obtain ⟨h, cap, rfl, hSh, hlt⟩ := st.ent.form hm
  have hBh := st.vB h rfl
  have hcell := st.ent.cells (g := h) rfl
  have hadd : ∀ j, (⟨h, 0, none⟩ : Addr).add j = ⟨h, j, none⟩ := fun j => by rw [Addr.add_lit]; simp
  refine ⟨h, cap, ⟨st.SB, hSh, by omega, fun i hi e => ?_, fun i hi e => ?_, st.ee⟩, ⟨by have := st.SB; have := st.bB; omega, st.bB, hlt, st.b, fun i hi => ?_, fun i hi => ?_, fun i hi => ?_, fun j => st.ent.frozenAt j, st.rows, st.below, st.em⟩⟩
  · have := st.eB i hi B e; omega
  · have := st.eB i hi h e; omega
  · have := hcell (i * 3) _ (ents_at E m i hi).1; rw [hadd] at this; exact this
  · have := hcell (i * 3 + 1) _ (ents_at E m i hi).2.1; rw [hadd] at this; exact this
  · have := hcell (i * 3 + 2) _ (ents_at E m i hi).2.2; rw [hadd] at this; exact this
end Go.Proofs.YtdoojlffejjbaaaDoor
