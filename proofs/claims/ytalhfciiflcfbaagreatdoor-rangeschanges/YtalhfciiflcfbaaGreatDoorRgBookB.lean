/-
  A Book of lists of ranges: a list is told. Written by mkbook8b.py out of AeBook.lean.
-/
import Derived.Test.YtalhfciiflcfbaaGreatDoorRgBookA
import Derived.Test.YtalhfciiflcfbaaGreatDoorRgRefC
namespace Go.Proofs.YtalhfciiflcfbaaGreatDoor.Bo
open Go Go.RowKit

set_option maxRecDepth 20000 in
set_option maxHeartbeats 400000 in
theorem mark_r (k : Nat) (w : World) (h1 : k ≤ 5000000) :
    Calls Tryz.prog 75 #[.int .i64 ((k : Int) + 1)] w fun e w' => e = .returned (.agg (rC2 (mk k))) ∧ Below w.heap.size w w' := by
  have e1 : ((mk k).1 : Int) = 1000 + ((k : Int) + 1) := by unfold mk; simp only; omega
  unfold rC2
  rw [e1]
  have hB : ∀ o u, Below w.heap.size w ((w.alloc o).setCells w.heap.size 0 [.int .u64 u, .int .u64 0]) := fun o u => by
    have q : Below w.heap.size w (((w.alloc o).setCell ⟨w.heap.size, 0, none⟩ (.int .u64 u)).setCell ⟨w.heap.size, 1, none⟩ (.int .u64 0)) := ((((Below.refl _ w).alloc (Nat.le_refl _) o).setCell (p := ⟨w.heap.size, 0, none⟩) (Nat.le_refl _) _).setCell (p := ⟨w.heap.size, 1, none⟩) (Nat.le_refl _) _)
    exact q
  go_enter Tryz.func75, Tryz.ntmps75
  go_wp2
  refine bodyPost_ret (results_cell_row rfl _ _ w.heap.size _ #[.int .u64 (1000 + ((k : Int) + 1)), .int .u64 ((mk k).2 : Int)] (0, 0) _ rfl (Row.new w 25 _) Tryz.underlying25 rfl (by kernel_rfl)) rfl ?_
  exact ⟨rfl, by first | exact hB _ _ | exact (Below.refl _ w).alloc (Nat.le_refl _) _⟩

theorem mark_l (k : Nat) (w : World) (h1 : k ≤ 5000000) :
    Calls Tryz.prog 75 #[.int .i64 ((k : Int) + 1)] w fun e w' => e = .returned (.agg #[.int .u64 ((mk k).1 : Int), .int .u64 ((mk k).2 : Int)]) ∧ Below w.heap.size w w' := mark_r k w h1

set_option maxRecDepth 20000 in
set_option maxHeartbeats 400000 in
theorem is_r (k : Nat) (w : World) (h1 : k ≤ 5000000) :
    Calls Tryz.prog 87 #[.agg (rC2 (mk k)), .int .i64 ((k : Int) + 1)] w fun e w' => e = .returned (.bool true) ∧ Below w.heap.size w w' := by
  have e1 : ((mk k).1 : Int) = 1000 + ((k : Int) + 1) := by unfold mk; simp only; omega
  unfold rC2
  rw [e1]
  have r0 : Row (w.alloc (.cells #[.int .u64 (1000 + ((k : Int) + 1)), .int .u64 ((mk k).2 : Int)] 25)) w.heap.size 25 #[.int .u64 (1000 + ((k : Int) + 1)), .int .u64 ((mk k).2 : Int)] := Row.new _ _ _
  have c0 := r0.cell 0
  have HB := veil (show Below w.heap.size w (w.alloc (.cells #[.int .u64 (1000 + ((k : Int) + 1)), .int .u64 ((mk k).2 : Int)] 25)) from (Below.refl _ w).alloc (Nat.le_refl _) _)
  clear r0
  go_enter Tryz.func87, Tryz.ntmps87
  go_wp2
  go_ret
  exact ⟨by simp, HB.out⟩

set_option maxRecDepth 20000 in
set_option maxHeartbeats 2000000 in
theorem keep_any (S B m : Nat) (V : Value) (E : Nat → Value) (N : Nat → Nat) (X : Nat → List (Nat × Nat)) (w0 W : World) (l : Value) (nl : Nat) (xl : List (Nat × Nat)) (hm : m ≤ 1000) (st : Bk S B m m V E N X w0 W) (hl : W.ownsRow S 25 2 l nl (vr xl)) (hlB : ∀ k, l.ownBlock = some k → k < B) (hle : ∀ i, i < m → (E i).ownBlock = none ∨ (E i).ownBlock ≠ l.ownBlock) :
    Calls Tryz.prog 29 #[.pointer (some ⟨B, 0, none⟩), l] W fun e w' => e = .returned (.tuple #[]) ∧ ∃ V', Bk S B (m + 1) (m + 1) V' (upd E m l) (upd N m nl) (upd X m xl) w0 w' ∧ Holds S B W w' := by
  obtain ⟨i0, hi, hz0, hz1, hz2⟩ := info_parts Tryz.infoHeld
  obtain ⟨al, cl, rfl⟩ : ∃ al cl, l = .slice al nl cl := by
    rcases bookOwn_shape hl with ⟨h1, h2⟩ | ⟨g, c, h1, _⟩
    · exact ⟨none, 0, by rw [h1, h2]⟩
    · exact ⟨some ⟨g, 0, none⟩, c, h1⟩
  obtain ⟨av, cv, rfl⟩ : ∃ av cv, V = .slice av m cv := by
    rcases st.ent.2 with ⟨h1, h2⟩ | ⟨g, c, _, h1, _⟩
    · exact ⟨none, 0, by rw [h1, h2]⟩
    · exact ⟨some ⟨g, 0, none⟩, c, h1⟩
  have HST : Hid (Bk S B m m (.slice av m cv) E N X w0 W) := st
  have HL : Hid (W.ownsRow S 25 2 (.slice al nl cl) nl (vr xl)) := hl
  have HLB : Hid (∀ k, (Value.slice al nl cl).ownBlock = some k → k < B) := hlB
  have HLE : Hid (∀ i, i < m → (E i).ownBlock = none ∨ (E i).ownBlock ≠ (Value.slice al nl cl).ownBlock) := hle
  have hcn := st.n
  have hcb := st.b
  have hfz0 := st.fz 0
  have hfz1 := st.fz 6
  have hbB := st.bB
  have hSB := st.SB
  clear st hl hlB hle
  go_enter Tryz.func29, Tryz.ntmps29
  go_wp2_with fail
  obtain ⟨W1, hW1⟩ : ∃ W1, W1 = W.setCell ⟨B, 0, none⟩ (.int .i64 ((m : Int) + 1)) := ⟨_, rfl⟩
  rw [← hW1]
  have HT : Hid (Bk S B (m + 1) m (.slice av m cv) E N X w0 W1) := by
    rw [hW1]
    exact HST.out.tick (m + 1)
  have hgr0 : W.grownBy W1 (some B) := by
    rw [hW1]
    exact ⟨rfl, rfl, rfl, by simp, fun b _ hb => Below.heap_setCell _ _ _ b (fun e => hb (by rw [e]))⟩
  have HL1 : Hid (W1.ownsRow S 25 2 (.slice al nl cl) nl (vr xl)) := HL.out.kept hgr0 (.inr (fun e => by have := HLB.out B e; omega))
  have HH : Hid (Holds S B W W1) := fun v n xs h1 h2 => h1.kept hgr0 (.inr (fun e => by have := h2 B e; omega))
  have hn1 : W1.cell? ⟨B, 0, none⟩ = some (.int .i64 ((m : Int) + 1)) := HT.out.n
  have hb1 : W1.cell? ⟨B, 6, none⟩ = some (.slice av m cv) := HT.out.b
  have hf1 : W1.frozen? ⟨B, 6, none⟩ = false := HT.out.fz 6
  have hbB1 : B < W1.heap.size := HT.out.bB
  have hVB : some B ≠ (Value.slice av m cv).ownBlock := by
    intro e
    have := HT.out.vB B e.symm
    omega
  have hbA : ∀ o, (W1.alloc o).cell? ⟨B, 6, none⟩ = some (.slice av m cv) := fun o => (World.cell?_alloc_old _ _ _ (by show B ≠ _; omega)).trans hb1
  have hfA : ∀ o, (W1.alloc o).frozen? ⟨B, 6, none⟩ = false := fun o => (World.frozen?_of_block (w := W1) (a := ⟨B, 6, none⟩) ((World.grownBy_alloc W1 o none).block B hbB1 (by simp))).trans hf1
  clear hgr0 hW1 hcn hcb hfz0 hfz1 hbB HST HL
  go_region_law (refine step_append_lies _ (by rfl) _ _ 38 (by rfl) S 69 i0 _ 3 56 Tryz.underlying38 hi hz0 hz1 hz2 (by rfl) (by decide) (.slice av m cv) m (ents E m) (by rfl) (by exact (HT.out.ent.alloc _)) ⟨W1.heap.size, 0, none⟩ 1 1 [.slice al nl cl, .slice none 0 0, .int .i64 ((m : Int) + 1)] (by rfl) (by rfl) (by exact World.news_of_block (cs := #[.slice al nl cl, .slice none 0 0, .int .i64 ((m : Int) + 1)]) (fr := (0, 0)) (heap_alloc_new W1 _)) (by simp [Value.oneCell']) (by decide) (by unfold maxLen; omega) (by omega) (by simp; omega) (W1.heap.size + 1) (by simp) ?_; intro g c w1 hown hgrow hat hglt; have hk1 : w1.cell? ⟨B, 6, none⟩ = some (.slice av m cv) := hgrow.cell (a := ⟨B, 6, none⟩) (by exact hbA _) hVB; have hk2 : w1.frozen? ⟨B, 6, none⟩ = false := (World.frozen?_of_block (a := ⟨B, 6, none⟩) (hgrow.block B (by simp; omega) hVB)).trans (by exact hfA _))
  all_goals
    go_wp2_with fail
    go_end0
    obtain ⟨k1, k2⟩ := HT.out.told HL1.out HLB.out HLE.out (by omega) (Nat.le_succ _) ((World.grownBy_alloc W1 (.cells #[.slice al nl cl, .slice none 0 0, .int .i64 ((m : Int) + 1)] 69) _).trans ⟨hgrow.os, hgrow.tape, hgrow.output, hgrow.size, hgrow.block⟩) hat hown
    exact ⟨rfl, .slice (some ⟨g, 0, none⟩) (m + 1) c, k1, fun v n xs h1 h2 => k2 v n xs (HH.out v n xs h1 h2) h2⟩

theorem ranges_any (S B m : Nat) (V : Value) (E : Nat → Value) (N : Nat → Nat) (X : Nat → List (Nat × Nat)) (w0 W : World) (l : Value) (nl : Nat) (xl : List (Nat × Nat)) (hm : m ≤ 1000) (st : Bk S B m m V E N X w0 W) (hl : W.ownsRow S 25 2 l nl (vr xl)) (hlB : ∀ k, l.ownBlock = some k → k < B) (hle : ∀ i, i < m → (E i).ownBlock = none ∨ (E i).ownBlock ≠ l.ownBlock) :
    Calls Tryz.prog 15 #[.pointer (some ⟨B, 0, none⟩), l] W fun e w' => e = .returned (.tuple #[]) ∧ ∃ V', Bk S B (m + 1) (m + 1) V' (upd E m l) (upd N m nl) (upd X m xl) w0 w' ∧ Holds S B W w' := by
  go_enter Tryz.func15, Tryz.ntmps15
  go_wp2_with fail
  refine (keep_any S B m V E N X w0 W l nl xl hm st hl hlB hle).mono ?_
  rintro e w' ⟨rfl, h⟩
  go_wp2_with fail
  go_end0
  exact ⟨rfl, h⟩

end Go.Proofs.YtalhfciiflcfbaaGreatDoor.Bo
