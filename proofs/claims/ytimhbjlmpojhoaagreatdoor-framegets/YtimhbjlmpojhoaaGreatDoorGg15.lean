/-
  Out of BkTell, BkHold, BkNew.
-/
import Derived.Test.YtimhbjlmpojhoaaGreatDoorGg9

/-! A list is told to a Book: what is written. Written by mkbkt.py. -/
namespace Go.Proofs.YtimhbjlmpojhoaaGreatDoor.Ba
open Go Go.RowKit
open Go.Proofs.YtimhbjlmpojhoaaGreatDoor.Bq (OwnB own_keepP below_keepP keep_grown keep_below Sep)

/-- What telling a list leaves: the count, the longer list of entries, and all else as it was. -/
structure Told (S B j HT nn m : Nat) (V l : Value) (es : List Value) (W W' : World) (g c : Nat) : Prop where
  n : W'.cell? ⟨B, 0, none⟩ = some (.int .i64 ((nn : Int) + 1))
  b : W'.cell? ⟨B, j, none⟩ = some (.slice (some ⟨g, 0, none⟩) (m + 1) c)
  oth : ∀ q, q ≠ 0 → q ≠ j → W'.cell? ⟨B, q, none⟩ = W.cell? ⟨B, q, none⟩
  fz : ∀ q, W'.frozen? ⟨B, q, none⟩ = W.frozen? ⟨B, q, none⟩
  ent : W'.ownsRow S HT 3 (.slice (some ⟨g, 0, none⟩) (m + 1) c) (m + 1) (es ++ [l, .slice none 0 0, .int .i64 ((nn : Int) + 1)])
  at_ : V.ownBlock = some g ∨ W.heap.size ≤ g
  keep : KeepP (fun b => b = B ∨ V.ownBlock = some b) W W'
theorem told_of {S B j HT nn m : Nat} {V l : Value} {es : List Value} {W w1 : World} {g c : Nat} (hj : j ≠ 0) (hbB : B < W.heap.size) (hn : W.cell? ⟨B, 0, none⟩ = some (.int .i64 (nn : Int))) (hb : W.cell? ⟨B, j, none⟩ = some V) (hVB : ∀ k, V.ownBlock = some k → B < k)
    (hgr : (W.setCell ⟨B, 0, none⟩ (.int .i64 ((nn : Int) + 1))).grownBy w1 V.ownBlock) (hat : V.ownBlock = some g ∨ g = W.heap.size + 1) (hown : w1.ownsRow S HT 3 (.slice (some ⟨g, 0, none⟩) (m + 1) c) (m + 1) (es ++ [l, .slice none 0 0, .int .i64 ((nn : Int) + 1)])) :
    Told S B j HT nn m V l es W (w1.setCell ⟨B, j, none⟩ (.slice (some ⟨g, 0, none⟩) (m + 1) c)) g c := by
  have hV : some B ≠ V.ownBlock := fun e => by have := hVB B e.symm; omega
  have hB1 : B < (W.setCell ⟨B, 0, none⟩ (.int .i64 ((nn : Int) + 1))).heap.size := by simpa using hbB
  have hblk := hgr.block B hB1 hV
  have hgr2 : w1.grownBy (w1.setCell ⟨B, j, none⟩ (.slice (some ⟨g, 0, none⟩) (m + 1) c)) (some B) := ⟨rfl, rfl, rfl, by simp, fun b _ hb => Below.heap_setCell _ _ _ b (fun e => hb (by rw [e]))⟩
  have hgB : g ≠ B := fun e => by
    rcases hat with h | h
    · have := hVB g h; omega
    · omega
  have c0 : w1.cell? ⟨B, 0, none⟩ = some (.int .i64 ((nn : Int) + 1)) := (World.cell?_of_block (a := ⟨B, 0, none⟩) hblk).trans (World.cell?_setCell_same _ _ _ hn)
  have cq : ∀ q, q ≠ 0 → w1.cell? ⟨B, q, none⟩ = W.cell? ⟨B, q, none⟩ := fun q hq => by
    refine (World.cell?_of_block (a := ⟨B, q, none⟩) hblk).trans ?_
    rw [World.cell?_setCell_other _ _ _ _ (by intro e; injection e; omega)]
  refine ⟨?_, World.cell?_setCell_same _ _ _ ((cq j hj).trans hb), fun q h1 h2 => ?_, fun q => ?_, hown.kept hgr2 (.inr ?_), ?_, ⟨?_, ?_, ?_, ?_, fun b hb hn => ?_⟩⟩
  · rw [World.cell?_setCell_other _ _ _ _ (by intro e; injection e; omega)]; exact c0
  · rw [World.cell?_setCell_other _ _ _ _ (by intro e; injection e; omega)]; exact cq q h1
  · rw [World.frozen?_setCell]
    refine (World.frozen?_of_block (a := ⟨B, q, none⟩) hblk).trans ?_
    rw [World.frozen?_setCell]
  · intro e; injection e with e; exact hgB e
  · rcases hat with h | h
    · exact .inl h
    · exact .inr (by omega)
  · exact hgr.os
  · exact hgr.tape
  · exact hgr.output
  · have := hgr.size
    simp at this ⊢
    exact this
  · rw [Below.heap_setCell _ _ _ b (fun e => hn (.inl e)), hgr.block b (by simpa using hb) (fun e => hn (.inr e.symm)), Below.heap_setCell _ _ _ b (fun e => hn (.inl e))]

theorem Tryz.infoHeldTByte : (Tryz.prog.info? 95).map (fun i => (i.zero, i.size, i.bytes)) = some (some (.agg #[.slice none 0 0, .slice none 0 0, .int .i64 0]), 3, 56) := by kernel_rfl
set_option maxRecDepth 20000 in
set_option maxHeartbeats 2000000 in
theorem tellByte (S B nn m : Nat) (V : Value) (es : List Value) (W : World) (al : Option Addr) (nl cl : Nat) (hm : m ≤ 3000000) (hnn : nn ≤ 5000000) (hn : W.cell? ⟨B, 0, none⟩ = some (.int .i64 (nn : Int))) (hb : W.cell? ⟨B, 1, none⟩ = some V) (hfz : ∀ q, W.frozen? ⟨B, q, none⟩ = false) (hbB : B < W.heap.size) (hSW : S ≤ W.heap.size) (ent : W.ownsRow S 95 3 V m es) (hVB : ∀ k, V.ownBlock = some k → B < k) :
    Calls Tryz.prog 32 #[.pointer (some ⟨B, 0, none⟩), .slice al nl cl] W fun e w' => e = .returned (.tuple #[]) ∧ ∃ g c, Told S B 1 95 nn m V (.slice al nl cl) es W w' g c := by
  obtain ⟨i0, hi, hz0, hz1, hz2⟩ := info_parts Tryz.infoHeldTByte
  obtain ⟨av, cv, rfl⟩ : ∃ av cv, V = .slice av m cv := by
    rcases ent.2 with ⟨h1, h2⟩ | ⟨g, c, _, h1, _⟩
    · exact ⟨none, 0, by rw [h1, h2]⟩
    · exact ⟨some ⟨g, 0, none⟩, c, h1⟩
  have HNC := veil hn
  have HBC := veil hb
  have HV := veil hVB
  have hfz0 := hfz 0
  have hcn := hn
  have hcb := hb
  have hf6 := hfz 1
  have HENT := veil ent
  clear ent hn hb hfz hVB
  go_enter Tryz.func32, Tryz.ntmps32
  go_wp2_with fail
  obtain ⟨W1, hW1⟩ : ∃ W1, W1 = W.setCell ⟨B, 0, none⟩ (.int .i64 ((nn : Int) + 1)) := ⟨_, rfl⟩
  rw [← hW1]
  have hgr0 : W.grownBy W1 (some B) := by
    rw [hW1]
    exact ⟨rfl, rfl, rfl, by simp, fun b _ hb => Below.heap_setCell _ _ _ b (fun e => hb (by rw [e]))⟩
  have hVB : some B ≠ (Value.slice av m cv).ownBlock := by
    intro e
    have := HV.out B e.symm
    omega
  have HE1 := veil (HENT.out.kept hgr0 (.inr (fun e => hVB e.symm)))
  have hn1 : W1.cell? ⟨B, 0, none⟩ = some (.int .i64 ((nn : Int) + 1)) := by rw [hW1]; exact World.cell?_setCell_same _ _ _ HNC.out
  have hb1 : W1.cell? ⟨B, 1, none⟩ = some (.slice av m cv) := by rw [hW1, World.cell?_setCell_other _ _ _ _ (by intro e; injection e; omega)]; exact HBC.out
  have hf1 : W1.frozen? ⟨B, 1, none⟩ = false := by rw [hW1, World.frozen?_setCell]; exact hf6
  have hbB1 : B < W1.heap.size := by rw [hW1]; simpa using hbB
  have HS1 := veil (show W1.heap.size = W.heap.size by rw [hW1]; simp)
  have hS1 : S ≤ W1.heap.size := by rw [HS1.out]; exact hSW
  have hbA : ∀ o, (W1.alloc o).cell? ⟨B, 1, none⟩ = some (.slice av m cv) := fun o => (World.cell?_alloc_old _ _ _ (by show B ≠ _; omega)).trans hb1
  have hfA : ∀ o, (W1.alloc o).frozen? ⟨B, 1, none⟩ = false := fun o => (World.frozen?_of_block (w := W1) (a := ⟨B, 1, none⟩) ((World.grownBy_alloc W1 o none).block B hbB1 (by simp))).trans hf1
  have HW1 := veil hW1
  clear hgr0 hW1 hcn hcb hfz0 hf6 HENT
  go_region_law (refine step_append_lies _ (by rfl) _ _ 38 (by rfl) S 95 i0 _ 3 56 Tryz.underlying38 hi hz0 hz1 hz2 (by rfl) (by decide) (.slice av m cv) m es (by rfl) (by exact (HE1.out.alloc _)) ⟨W1.heap.size, 0, none⟩ 1 1 [.slice al nl cl, .slice none 0 0, .int .i64 ((nn : Int) + 1)] (by rfl) (by rfl) (by exact World.news_of_block (cs := #[.slice al nl cl, .slice none 0 0, .int .i64 ((nn : Int) + 1)]) (fr := (0, 0)) (heap_alloc_new W1 _)) (by simp [Value.oneCell']) (by decide) (by unfold maxLen; omega) (by omega) (by simp; omega) (W1.heap.size + 1) (by simp) ?_; intro g c w1 hown hgrow hat hglt; have hk1 : w1.cell? ⟨B, 1, none⟩ = some (.slice av m cv) := hgrow.cell (a := ⟨B, 1, none⟩) (by exact hbA _) hVB; have hk2 : w1.frozen? ⟨B, 1, none⟩ = false := (World.frozen?_of_block (a := ⟨B, 1, none⟩) (hgrow.block B (by simp; omega) hVB)).trans (by exact hfA _))
  all_goals
    go_wp2_with fail
    go_end0
    have hG := (World.grownBy_alloc W1 (.cells #[.slice al nl cl, .slice none 0 0, .int .i64 ((nn : Int) + 1)] 95) _).trans ⟨hgrow.os, hgrow.tape, hgrow.output, hgrow.size, hgrow.block⟩
    rw [HW1.out] at hG
    exact ⟨rfl, g, c, told_of (by decide) hbB HNC.out HBC.out HV.out hG (by rw [← HS1.out]; exact hat) hown⟩

theorem Tryz.infoHeldTRange : (Tryz.prog.info? 112).map (fun i => (i.zero, i.size, i.bytes)) = some (some (.agg #[.slice none 0 0, .slice none 0 0, .int .i64 0]), 3, 56) := by kernel_rfl
set_option maxRecDepth 20000 in
set_option maxHeartbeats 2000000 in
theorem tellRange (S B nn m : Nat) (V : Value) (es : List Value) (W : World) (al : Option Addr) (nl cl : Nat) (hm : m ≤ 3000000) (hnn : nn ≤ 5000000) (hn : W.cell? ⟨B, 0, none⟩ = some (.int .i64 (nn : Int))) (hb : W.cell? ⟨B, 6, none⟩ = some V) (hfz : ∀ q, W.frozen? ⟨B, q, none⟩ = false) (hbB : B < W.heap.size) (hSW : S ≤ W.heap.size) (ent : W.ownsRow S 112 3 V m es) (hVB : ∀ k, V.ownBlock = some k → B < k) :
    Calls Tryz.prog 127 #[.pointer (some ⟨B, 0, none⟩), .slice al nl cl] W fun e w' => e = .returned (.tuple #[]) ∧ ∃ g c, Told S B 6 112 nn m V (.slice al nl cl) es W w' g c := by
  obtain ⟨i0, hi, hz0, hz1, hz2⟩ := info_parts Tryz.infoHeldTRange
  obtain ⟨av, cv, rfl⟩ : ∃ av cv, V = .slice av m cv := by
    rcases ent.2 with ⟨h1, h2⟩ | ⟨g, c, _, h1, _⟩
    · exact ⟨none, 0, by rw [h1, h2]⟩
    · exact ⟨some ⟨g, 0, none⟩, c, h1⟩
  have HNC := veil hn
  have HBC := veil hb
  have HV := veil hVB
  have hfz0 := hfz 0
  have hcn := hn
  have hcb := hb
  have hf6 := hfz 6
  have HENT := veil ent
  clear ent hn hb hfz hVB
  go_enter Tryz.func127, Tryz.ntmps127
  go_wp2_with fail
  obtain ⟨W1, hW1⟩ : ∃ W1, W1 = W.setCell ⟨B, 0, none⟩ (.int .i64 ((nn : Int) + 1)) := ⟨_, rfl⟩
  rw [← hW1]
  have hgr0 : W.grownBy W1 (some B) := by
    rw [hW1]
    exact ⟨rfl, rfl, rfl, by simp, fun b _ hb => Below.heap_setCell _ _ _ b (fun e => hb (by rw [e]))⟩
  have hVB : some B ≠ (Value.slice av m cv).ownBlock := by
    intro e
    have := HV.out B e.symm
    omega
  have HE1 := veil (HENT.out.kept hgr0 (.inr (fun e => hVB e.symm)))
  have hn1 : W1.cell? ⟨B, 0, none⟩ = some (.int .i64 ((nn : Int) + 1)) := by rw [hW1]; exact World.cell?_setCell_same _ _ _ HNC.out
  have hb1 : W1.cell? ⟨B, 6, none⟩ = some (.slice av m cv) := by rw [hW1, World.cell?_setCell_other _ _ _ _ (by intro e; injection e; omega)]; exact HBC.out
  have hf1 : W1.frozen? ⟨B, 6, none⟩ = false := by rw [hW1, World.frozen?_setCell]; exact hf6
  have hbB1 : B < W1.heap.size := by rw [hW1]; simpa using hbB
  have HS1 := veil (show W1.heap.size = W.heap.size by rw [hW1]; simp)
  have hS1 : S ≤ W1.heap.size := by rw [HS1.out]; exact hSW
  have hbA : ∀ o, (W1.alloc o).cell? ⟨B, 6, none⟩ = some (.slice av m cv) := fun o => (World.cell?_alloc_old _ _ _ (by show B ≠ _; omega)).trans hb1
  have hfA : ∀ o, (W1.alloc o).frozen? ⟨B, 6, none⟩ = false := fun o => (World.frozen?_of_block (w := W1) (a := ⟨B, 6, none⟩) ((World.grownBy_alloc W1 o none).block B hbB1 (by simp))).trans hf1
  have HW1 := veil hW1
  clear hgr0 hW1 hcn hcb hfz0 hf6 HENT
  go_region_law (refine step_append_lies _ (by rfl) _ _ 43 (by rfl) S 112 i0 _ 3 56 Tryz.underlying43 hi hz0 hz1 hz2 (by rfl) (by decide) (.slice av m cv) m es (by rfl) (by exact (HE1.out.alloc _)) ⟨W1.heap.size, 0, none⟩ 1 1 [.slice al nl cl, .slice none 0 0, .int .i64 ((nn : Int) + 1)] (by rfl) (by rfl) (by exact World.news_of_block (cs := #[.slice al nl cl, .slice none 0 0, .int .i64 ((nn : Int) + 1)]) (fr := (0, 0)) (heap_alloc_new W1 _)) (by simp [Value.oneCell']) (by decide) (by unfold maxLen; omega) (by omega) (by simp; omega) (W1.heap.size + 1) (by simp) ?_; intro g c w1 hown hgrow hat hglt; have hk1 : w1.cell? ⟨B, 6, none⟩ = some (.slice av m cv) := hgrow.cell (a := ⟨B, 6, none⟩) (by exact hbA _) hVB; have hk2 : w1.frozen? ⟨B, 6, none⟩ = false := (World.frozen?_of_block (a := ⟨B, 6, none⟩) (hgrow.block B (by simp; omega) hVB)).trans (by exact hfA _))
  all_goals
    go_wp2_with fail
    go_end0
    have hG := (World.grownBy_alloc W1 (.cells #[.slice al nl cl, .slice none 0 0, .int .i64 ((nn : Int) + 1)] 112) _).trans ⟨hgrow.os, hgrow.tape, hgrow.output, hgrow.size, hgrow.block⟩
    rw [HW1.out] at hG
    exact ⟨rfl, g, c, told_of (by decide) hbB HNC.out HBC.out HV.out hG (by rw [← HS1.out]; exact hat) hown⟩

theorem Tryz.infoHeldTFrame : (Tryz.prog.info? 93).map (fun i => (i.zero, i.size, i.bytes)) = some (some (.agg #[.slice none 0 0, .slice none 0 0, .int .i64 0]), 3, 56) := by kernel_rfl
set_option maxRecDepth 20000 in
set_option maxHeartbeats 2000000 in
theorem tellFrame (S B nn m : Nat) (V : Value) (es : List Value) (W : World) (al : Option Addr) (nl cl : Nat) (hm : m ≤ 3000000) (hnn : nn ≤ 5000000) (hn : W.cell? ⟨B, 0, none⟩ = some (.int .i64 (nn : Int))) (hb : W.cell? ⟨B, 7, none⟩ = some V) (hfz : ∀ q, W.frozen? ⟨B, q, none⟩ = false) (hbB : B < W.heap.size) (hSW : S ≤ W.heap.size) (ent : W.ownsRow S 93 3 V m es) (hVB : ∀ k, V.ownBlock = some k → B < k) :
    Calls Tryz.prog 31 #[.pointer (some ⟨B, 0, none⟩), .slice al nl cl] W fun e w' => e = .returned (.tuple #[]) ∧ ∃ g c, Told S B 7 93 nn m V (.slice al nl cl) es W w' g c := by
  obtain ⟨i0, hi, hz0, hz1, hz2⟩ := info_parts Tryz.infoHeldTFrame
  obtain ⟨av, cv, rfl⟩ : ∃ av cv, V = .slice av m cv := by
    rcases ent.2 with ⟨h1, h2⟩ | ⟨g, c, _, h1, _⟩
    · exact ⟨none, 0, by rw [h1, h2]⟩
    · exact ⟨some ⟨g, 0, none⟩, c, h1⟩
  have HNC := veil hn
  have HBC := veil hb
  have HV := veil hVB
  have hfz0 := hfz 0
  have hcn := hn
  have hcb := hb
  have hf6 := hfz 7
  have HENT := veil ent
  clear ent hn hb hfz hVB
  go_enter Tryz.func31, Tryz.ntmps31
  go_wp2_with fail
  obtain ⟨W1, hW1⟩ : ∃ W1, W1 = W.setCell ⟨B, 0, none⟩ (.int .i64 ((nn : Int) + 1)) := ⟨_, rfl⟩
  rw [← hW1]
  have hgr0 : W.grownBy W1 (some B) := by
    rw [hW1]
    exact ⟨rfl, rfl, rfl, by simp, fun b _ hb => Below.heap_setCell _ _ _ b (fun e => hb (by rw [e]))⟩
  have hVB : some B ≠ (Value.slice av m cv).ownBlock := by
    intro e
    have := HV.out B e.symm
    omega
  have HE1 := veil (HENT.out.kept hgr0 (.inr (fun e => hVB e.symm)))
  have hn1 : W1.cell? ⟨B, 0, none⟩ = some (.int .i64 ((nn : Int) + 1)) := by rw [hW1]; exact World.cell?_setCell_same _ _ _ HNC.out
  have hb1 : W1.cell? ⟨B, 7, none⟩ = some (.slice av m cv) := by rw [hW1, World.cell?_setCell_other _ _ _ _ (by intro e; injection e; omega)]; exact HBC.out
  have hf1 : W1.frozen? ⟨B, 7, none⟩ = false := by rw [hW1, World.frozen?_setCell]; exact hf6
  have hbB1 : B < W1.heap.size := by rw [hW1]; simpa using hbB
  have HS1 := veil (show W1.heap.size = W.heap.size by rw [hW1]; simp)
  have hS1 : S ≤ W1.heap.size := by rw [HS1.out]; exact hSW
  have hbA : ∀ o, (W1.alloc o).cell? ⟨B, 7, none⟩ = some (.slice av m cv) := fun o => (World.cell?_alloc_old _ _ _ (by show B ≠ _; omega)).trans hb1
  have hfA : ∀ o, (W1.alloc o).frozen? ⟨B, 7, none⟩ = false := fun o => (World.frozen?_of_block (w := W1) (a := ⟨B, 7, none⟩) ((World.grownBy_alloc W1 o none).block B hbB1 (by simp))).trans hf1
  have HW1 := veil hW1
  clear hgr0 hW1 hcn hcb hfz0 hf6 HENT
  go_region_law (refine step_append_lies _ (by rfl) _ _ 44 (by rfl) S 93 i0 _ 3 56 Tryz.underlying44 hi hz0 hz1 hz2 (by rfl) (by decide) (.slice av m cv) m es (by rfl) (by exact (HE1.out.alloc _)) ⟨W1.heap.size, 0, none⟩ 1 1 [.slice al nl cl, .slice none 0 0, .int .i64 ((nn : Int) + 1)] (by rfl) (by rfl) (by exact World.news_of_block (cs := #[.slice al nl cl, .slice none 0 0, .int .i64 ((nn : Int) + 1)]) (fr := (0, 0)) (heap_alloc_new W1 _)) (by simp [Value.oneCell']) (by decide) (by unfold maxLen; omega) (by omega) (by simp; omega) (W1.heap.size + 1) (by simp) ?_; intro g c w1 hown hgrow hat hglt; have hk1 : w1.cell? ⟨B, 7, none⟩ = some (.slice av m cv) := hgrow.cell (a := ⟨B, 7, none⟩) (by exact hbA _) hVB; have hk2 : w1.frozen? ⟨B, 7, none⟩ = false := (World.frozen?_of_block (a := ⟨B, 7, none⟩) (hgrow.block B (by simp; omega) hVB)).trans (by exact hfA _))
  all_goals
    go_wp2_with fail
    go_end0
    have hG := (World.grownBy_alloc W1 (.cells #[.slice al nl cl, .slice none 0 0, .int .i64 ((nn : Int) + 1)] 93) _).trans ⟨hgrow.os, hgrow.tape, hgrow.output, hgrow.size, hgrow.block⟩
    rw [HW1.out] at hG
    exact ⟨rfl, g, c, told_of (by decide) hbB HNC.out HBC.out HV.out hG (by rw [← HS1.out]; exact hat) hown⟩
end Go.Proofs.YtimhbjlmpojhoaaGreatDoor.Ba

/-! What a Book holds of one kind of lists while it is told. Written by mkbkh.py. -/
namespace Go.Proofs.YtimhbjlmpojhoaaGreatDoor.Ba
open Go Go.RowKit
open Go.Proofs.YtimhbjlmpojhoaaGreatDoor.Bq (OwnB own_keepP below_keepP keep_grown keep_below Sep)

/-- The entries, one behind the other, with their numbers. -/
def entsN (E : Nat → Value) (nu : Nat → Nat) : Nat → List Value
  | 0 => []
  | m + 1 => entsN E nu m ++ [E m, .slice none 0 0, .int .i64 (nu m : Int)]
theorem entsN_length (E : Nat → Value) (nu : Nat → Nat) : ∀ m, (entsN E nu m).length = m * 3
  | 0 => rfl
  | m + 1 => by rw [entsN, List.length_append, entsN_length E nu m]; simp; omega
theorem entsN_at (E : Nat → Value) (nu : Nat → Nat) : ∀ m i, i < m → (entsN E nu m)[i * 3]? = some (E i) ∧ (entsN E nu m)[i * 3 + 1]? = some (.slice none 0 0) ∧ (entsN E nu m)[i * 3 + 2]? = some (.int .i64 (nu i : Int))
  | 0, i, h => absurd h (Nat.not_lt_zero _)
  | m + 1, i, h => by
    rw [entsN]
    have hl := entsN_length E nu m
    by_cases him : i < m
    · obtain ⟨h1, h2, h3⟩ := entsN_at E nu m i him
      rw [List.getElem?_append_left (by omega), List.getElem?_append_left (by omega), List.getElem?_append_left (by omega)]
      exact ⟨h1, h2, h3⟩
    · have him2 : i = m := by omega
      subst him2
      rw [List.getElem?_append_right (by omega), List.getElem?_append_right (by omega), List.getElem?_append_right (by omega), hl, Nat.sub_self, Nat.add_sub_cancel_left, Nat.add_sub_cancel_left]
      exact ⟨rfl, rfl, rfl⟩
theorem entsN_congr {E F : Nat → Value} {nu mu : Nat → Nat} : ∀ m, (∀ i, i < m → E i = F i ∧ nu i = mu i) → entsN E nu m = entsN F mu m
  | 0, _ => rfl
  | m + 1, h => by rw [entsN, entsN, entsN_congr m (fun i hi => h i (by omega)), (h m (by omega)).1, (h m (by omega)).2]
/-- One more is told. -/
def upd {α : Type} (f : Nat → α) (m : Nat) (x : α) : Nat → α := fun i => if i = m then x else f i
theorem upd_at {α : Type} (f : Nat → α) (m : Nat) (x : α) : upd f m x m = x := if_pos rfl
theorem upd_lt {α : Type} (f : Nat → α) {m i : Nat} (x : α) (h : i < m) : upd f m x i = f i := if_neg (by omega)

/-- What the book in block B holds of one kind: its cell j, m entries, the lists, all older than the book. -/
structure Hd (S B j HT T z m : Nat) (V : Value) (E : Nat → Value) (nu N : Nat → Nat) (F : Nat → List Value) (W : World) : Prop where
  b : W.cell? ⟨B, j, none⟩ = some V
  nil : m = 0 → V = .slice none 0 0
  ent : W.ownsRow S HT 3 V m (entsN E nu m)
  vB : ∀ k, V.ownBlock = some k → B < k
  rows : ∀ i, i < m → W.ownsRow S T z (E i) (N i) (F i)
  eB : ∀ i, i < m → ∀ k, (E i).ownBlock = some k → k < B
  ee : ∀ i j, i < m → j < m → i ≠ j → (E i).ownBlock = none ∨ (E i).ownBlock ≠ (E j).ownBlock
section
variable {S B j HT T z m nn nl : Nat} {V l : Value} {E : Nat → Value} {nu N : Nat → Nat} {F : Nat → List Value} {xl : List Value} {W W' : World} {g c : Nat}
/-- A list of this kind was told. -/
theorem Hd.told (h : Hd S B j HT T z m V E nu N F W) (hbB : B < W.heap.size) (t : Told S B j HT nn m V l (entsN E nu m) W W' g c) (hl : W.ownsRow S T z l nl xl) (hlB : ∀ k, l.ownBlock = some k → k < B) (hle : ∀ i, i < m → (E i).ownBlock = none ∨ (E i).ownBlock ≠ l.ownBlock) :
    Hd S B j HT T z (m + 1) (.slice (some ⟨g, 0, none⟩) (m + 1) c) (upd E m l) (upd nu m (nn + 1)) (upd N m nl) (upd F m xl) W' := by
  have low : ∀ k, k < B → ¬ (k = B ∨ V.ownBlock = some k) := fun k hk e => by
    rcases e with e | e
    · omega
    · have := h.vB k e; omega
  refine ⟨t.b, fun e => absurd e (Nat.succ_ne_zero _), ?_, fun k e => ?_, fun i hi => ?_, fun i hi k e => ?_, fun i q hi hq hiq => ?_⟩
  · have e : entsN (upd E m l) (upd nu m (nn + 1)) (m + 1) = entsN E nu m ++ [l, .slice none 0 0, .int .i64 ((nn : Int) + 1)] := by
      rw [entsN, upd_at, upd_at, entsN_congr m (F := E) (mu := nu) (fun i hi => ⟨upd_lt E l hi, upd_lt nu _ hi⟩)]
      rfl
    rw [e]
    exact t.ent
  · injection e with e
    have e2 : g = k := e
    rcases t.at_ with h1 | h1
    · have := h.vB g h1; omega
    · omega
  · by_cases him : i = m
    · rw [him, upd_at, upd_at, upd_at]; exact own_keepP hl t.keep (fun b e => low b (hlB b e))
    · rw [upd_lt E l (by omega), upd_lt N nl (by omega), upd_lt F xl (by omega)]; exact own_keepP (h.rows i (by omega)) t.keep (fun b e => low b (h.eB i (by omega) b e))
  · by_cases him : i = m
    · rw [him, upd_at] at e; exact hlB k e
    · rw [upd_lt E l (by omega)] at e; exact h.eB i (by omega) k e
  · by_cases him : i = m
    · by_cases hqm : q = m
      · omega
      · rw [him, upd_at, upd_lt E l (by omega)]
        cases hlo : l.ownBlock with
        | none => exact .inl rfl
        | some k =>
          right
          rcases hle q (by omega) with h1 | h1
          · rw [h1]; simp
          · rw [hlo] at h1; exact fun e => h1 e.symm
    · rw [upd_lt E l (by omega)]
      by_cases hqm : q = m
      · rw [hqm, upd_at]; exact hle i (by omega)
      · rw [upd_lt E l (by omega)]; exact h.ee i q (by omega) (by omega) hiq
/-- A list of another kind was told. -/
theorem Hd.other {j' HT' m' : Nat} {V' l' : Value} {es' : List Value} (h : Hd S B j HT T z m V E nu N F W) (hj : j ≠ 0) (hjj : j ≠ j') (hVV : V.ownBlock = none ∨ V.ownBlock ≠ V'.ownBlock) (hV' : ∀ k, V'.ownBlock = some k → B < k) (t : Told S B j' HT' nn m' V' l' es' W W' g c) :
    Hd S B j HT T z m V E nu N F W' := by
  refine ⟨(t.oth j hj hjj).trans h.b, h.nil, own_keepP h.ent t.keep (fun b e e2 => ?_), h.vB, fun i hi => own_keepP (h.rows i hi) t.keep (fun b e e2 => ?_), h.eB, h.ee⟩
  · rcases e2 with e2 | e2
    · have := h.vB b e; omega
    · rcases hVV with h1 | h1
      · rw [h1] at e; cases e
      · exact h1 (e.trans e2.symm)
  · have := h.eB i hi b e
    rcases e2 with e2 | e2
    · omega
    · have := hV' b e2; omega
end
/-- What the book is when its lists of this kind are filled. -/
theorem Hd.stByte {S B m : Nat} {V : Value} {E : Nat → Value} {nu N : Nat → Nat} {X : Nat → List Value} {w0 W : World} (h : Hd S B 1 95 5 1 m V E nu N (fun i => X i) W) (hm : 0 < m) (hSB : S ≤ B) (hbB : B < W.heap.size) (hb : Below S w0 W) :
    ∃ hh cap, Sep S B hh m E ∧ Bb.St S B hh m cap nu E N (fun _ => .slice none 0 0) X w0 W ∧ V.ownBlock = some hh ∧ hh < W.heap.size := by
  obtain ⟨hh, cap, rfl, hSh, hlt⟩ := h.ent.form hm
  have hBh := h.vB hh rfl
  have hcell := h.ent.cells (g := hh) rfl
  have hadd : ∀ q, (⟨hh, 0, none⟩ : Addr).add q = ⟨hh, q, none⟩ := fun q => by rw [Addr.add_lit]; simp
  refine ⟨hh, cap, ⟨hSB, hSh, by omega, fun i hi e => ?_, fun i hi e => ?_, h.ee⟩, ⟨by omega, hbB, hlt, h.b, fun i hi => ?_, fun i hi => ?_, fun i hi => ?_, fun q => h.ent.frozenAt q, h.rows, hb⟩, rfl, hlt⟩
  · have := h.eB i hi B e; omega
  · have := h.eB i hi hh e; omega
  · have := hcell (i * 3) _ (entsN_at E nu m i hi).1; rw [hadd] at this; exact this
  · have := hcell (i * 3 + 1) _ (entsN_at E nu m i hi).2.1; rw [hadd] at this; exact this
  · have := hcell (i * 3 + 2) _ (entsN_at E nu m i hi).2.2; rw [hadd] at this; exact this
/-- What the book is when its lists of this kind are filled. -/
theorem Hd.stRange {S B m : Nat} {V : Value} {E : Nat → Value} {nu N : Nat → Nat} {X : Nat → List (Nat × Nat)} {w0 W : World} (h : Hd S B 6 112 114 2 m V E nu N (fun i => vr (X i)) W) (hm : 0 < m) (hSB : S ≤ B) (hbB : B < W.heap.size) (hb : Below S w0 W) :
    ∃ hh cap, Sep S B hh m E ∧ Bq.St S B hh m cap nu E N (fun _ => .slice none 0 0) X w0 W ∧ V.ownBlock = some hh ∧ hh < W.heap.size := by
  obtain ⟨hh, cap, rfl, hSh, hlt⟩ := h.ent.form hm
  have hBh := h.vB hh rfl
  have hcell := h.ent.cells (g := hh) rfl
  have hadd : ∀ q, (⟨hh, 0, none⟩ : Addr).add q = ⟨hh, q, none⟩ := fun q => by rw [Addr.add_lit]; simp
  refine ⟨hh, cap, ⟨hSB, hSh, by omega, fun i hi e => ?_, fun i hi e => ?_, h.ee⟩, ⟨by omega, hbB, hlt, h.b, fun i hi => ?_, fun i hi => ?_, fun i hi => ?_, fun q => h.ent.frozenAt q, h.rows, hb⟩, rfl, hlt⟩
  · have := h.eB i hi B e; omega
  · have := h.eB i hi hh e; omega
  · have := hcell (i * 3) _ (entsN_at E nu m i hi).1; rw [hadd] at this; exact this
  · have := hcell (i * 3 + 1) _ (entsN_at E nu m i hi).2.1; rw [hadd] at this; exact this
  · have := hcell (i * 3 + 2) _ (entsN_at E nu m i hi).2.2; rw [hadd] at this; exact this
/-- What the book is when its lists of this kind are filled. -/
theorem Hd.stFrame {S B m : Nat} {V : Value} {E : Nat → Value} {nu N : Nat → Nat} {X : Nat → List (Nat → Value)} {w0 W : World} (h : Hd S B 7 93 37 8 m V E nu N (fun i => Bf.vo (X i)) W) (hm : 0 < m) (hSB : S ≤ B) (hbB : B < W.heap.size) (hb : Below S w0 W) :
    ∃ hh cap, Sep S B hh m E ∧ Bf.St S B hh m cap nu E N (fun _ => .slice none 0 0) X w0 W ∧ V.ownBlock = some hh ∧ hh < W.heap.size := by
  obtain ⟨hh, cap, rfl, hSh, hlt⟩ := h.ent.form hm
  have hBh := h.vB hh rfl
  have hcell := h.ent.cells (g := hh) rfl
  have hadd : ∀ q, (⟨hh, 0, none⟩ : Addr).add q = ⟨hh, q, none⟩ := fun q => by rw [Addr.add_lit]; simp
  refine ⟨hh, cap, ⟨hSB, hSh, by omega, fun i hi e => ?_, fun i hi e => ?_, h.ee⟩, ⟨by omega, hbB, hlt, h.b, fun i hi => ?_, fun i hi => ?_, fun i hi => ?_, fun q => h.ent.frozenAt q, h.rows, hb⟩, rfl, hlt⟩
  · have := h.eB i hi B e; omega
  · have := h.eB i hi hh e; omega
  · have := hcell (i * 3) _ (entsN_at E nu m i hi).1; rw [hadd] at this; exact this
  · have := hcell (i * 3 + 1) _ (entsN_at E nu m i hi).2.1; rw [hadd] at this; exact this
  · have := hcell (i * 3 + 2) _ (entsN_at E nu m i hi).2.2; rw [hadd] at this; exact this
/-- What this kind keeps to, whether there are lists of it or not. -/
theorem Hd.isByte {S B m : Nat} {V : Value} {E : Nat → Value} {nu N : Nat → Nat} {X : Nat → List Value} {w0 W : World} (h : Hd S B 1 95 5 1 m V E nu N (fun i => X i) W) (hSB : S ≤ B) (hbB : B < W.heap.size) (hb : Below S w0 W) (hm : m ≤ 3000000) (hnu : ∀ i, i < m → nu i ≤ 5000000) (hN : ∀ i, i < m → N i ≤ 5000000) :
    ∃ (st : Nat → Prop) (k : Kind S B W.heap.size 33 45 57 st), k.K 0 W ∧ ∀ b, st b → Bq.OwnB m E b ∨ V.ownBlock = some b := by
  rcases Nat.eq_zero_or_pos m with h0 | h0
  · exact ⟨_, noneByte S B W.heap.size, ⟨by rw [h.b, h.nil h0], hbB⟩, fun b e => e.elim⟩
  · obtain ⟨hh, cap, sep, s, hv, hlt⟩ := h.stByte (w0 := w0) h0 hSB hbB hb
    refine ⟨_, kindByte S B W.heap.size hh m cap nu E N X w0 hnu hm hN sep (fun i hi b e => (h.rows i hi).lt b e) hlt, s, fun b e => ?_⟩
    rcases e with e | rfl
    · exact .inl e
    · exact .inr hv
/-- What this kind keeps to, whether there are lists of it or not. -/
theorem Hd.isRange {S B m : Nat} {V : Value} {E : Nat → Value} {nu N : Nat → Nat} {X : Nat → List (Nat × Nat)} {w0 W : World} (h : Hd S B 6 112 114 2 m V E nu N (fun i => vr (X i)) W) (hSB : S ≤ B) (hbB : B < W.heap.size) (hb : Below S w0 W) (hm : m ≤ 3000000) (hnu : ∀ i, i < m → nu i ≤ 5000000) (hN : ∀ i, i < m → N i ≤ 5000000) :
    ∃ (st : Nat → Prop) (k : Kind S B W.heap.size 38 50 62 st), k.K 0 W ∧ ∀ b, st b → Bq.OwnB m E b ∨ V.ownBlock = some b := by
  rcases Nat.eq_zero_or_pos m with h0 | h0
  · exact ⟨_, noneRange S B W.heap.size, ⟨by rw [h.b, h.nil h0], hbB⟩, fun b e => e.elim⟩
  · obtain ⟨hh, cap, sep, s, hv, hlt⟩ := h.stRange (w0 := w0) h0 hSB hbB hb
    refine ⟨_, kindRange S B W.heap.size hh m cap nu E N X w0 hnu hm hN sep (fun i hi b e => (h.rows i hi).lt b e) hlt, s, fun b e => ?_⟩
    rcases e with e | rfl
    · exact .inl e
    · exact .inr hv
/-- What this kind keeps to, whether there are lists of it or not. -/
theorem Hd.isFrame {S B m : Nat} {V : Value} {E : Nat → Value} {nu N : Nat → Nat} {X : Nat → List (Nat → Value)} {w0 W : World} (h : Hd S B 7 93 37 8 m V E nu N (fun i => Bf.vo (X i)) W) (hSB : S ≤ B) (hbB : B < W.heap.size) (hb : Below S w0 W) (hm : m ≤ 3000000) (hnu : ∀ i, i < m → nu i ≤ 5000000) (hN : ∀ i, i < m → N i ≤ 5000000) :
    ∃ (st : Nat → Prop) (k : Kind S B W.heap.size 39 51 63 st), k.K 0 W ∧ ∀ b, st b → Bq.OwnB m E b ∨ V.ownBlock = some b := by
  rcases Nat.eq_zero_or_pos m with h0 | h0
  · exact ⟨_, noneFrame S B W.heap.size, ⟨by rw [h.b, h.nil h0], hbB⟩, fun b e => e.elim⟩
  · obtain ⟨hh, cap, sep, s, hv, hlt⟩ := h.stFrame (w0 := w0) h0 hSB hbB hb
    refine ⟨_, kindFrame S B W.heap.size hh m cap nu E N X w0 hnu hm hN sep (fun i hi b e => (h.rows i hi).lt b e) hlt, s, fun b e => ?_⟩
    rcases e with e | rfl
    · exact .inl e
    · exact .inr hv
/-- Blocks of two kinds are apart. -/
theorem st_apart {m m' B : Nat} {V V' : Value} {E E' : Nat → Value} {st st' : Nat → Prop} (h : ∀ b, st b → Bq.OwnB m E b ∨ V.ownBlock = some b) (h' : ∀ b, st' b → Bq.OwnB m' E' b ∨ V'.ownBlock = some b) (eB : ∀ i, i < m → ∀ k, (E i).ownBlock = some k → k < B) (eB' : ∀ i, i < m' → ∀ k, (E' i).ownBlock = some k → k < B) (vB : ∀ k, V.ownBlock = some k → B < k) (vB' : ∀ k, V'.ownBlock = some k → B < k)
    (hx : ∀ i k, i < m → k < m' → (E i).ownBlock = none ∨ (E i).ownBlock ≠ (E' k).ownBlock) (hv : V.ownBlock = none ∨ V.ownBlock ≠ V'.ownBlock) : ∀ b, st b → ¬ st' b := by
  intro b e e'
  rcases h b e with ⟨i, hi, h1⟩ | h1 <;> rcases h' b e' with ⟨k, hk, h2⟩ | h2
  · rcases hx i k hi hk with q | q
    · rw [q] at h1; cases h1
    · exact q (h1.trans h2.symm)
  · have := eB i hi b h1
    have := vB' b h2
    omega
  · have := vB b h1
    have := eB' k hk b h2
    omega
  · rcases hv with q | q
    · rw [q] at h1; cases h1
    · exact q (h1.trans h2.symm)
/-- The lists that a Book of bytes, ranges and frames was told are apart. -/
theorem apart_held {S B mb mr mf : Nat} {Vb Vr Vf : Value} {Eb Er Ef : Nat → Value} {nub nur nuf Nb Nr Nf : Nat → Nat} {Xb : Nat → List Value} {Xr : Nat → List (Nat × Nat)} {Xf : Nat → List (Nat → Value)} {w0 W : World}
    (hb : Hd S B 1 95 5 1 mb Vb Eb nub Nb (fun i => Xb i) W) (hr : Hd S B 6 112 114 2 mr Vr Er nur Nr (fun i => vr (Xr i)) W) (hf : Hd S B 7 93 37 8 mf Vf Ef nuf Nf (fun i => Bf.vo (Xf i)) W)
    (em : ∀ j, 1 ≤ j → j < 13 → j ≠ 1 → j ≠ 6 → j ≠ 7 → W.cell? ⟨B, j, none⟩ = some (.slice none 0 0)) (hSB : S ≤ B) (hbB : B < W.heap.size) (hbel : Below S w0 W)
    (cb : mb ≤ 3000000) (cr : mr ≤ 3000000) (cf : mf ≤ 3000000) (ub : ∀ i, i < mb → nub i ≤ 5000000) (ur : ∀ i, i < mr → nur i ≤ 5000000) (uf : ∀ i, i < mf → nuf i ≤ 5000000) (lb : ∀ i, i < mb → Nb i ≤ 5000000) (lr : ∀ i, i < mr → Nr i ≤ 5000000) (lf : ∀ i, i < mf → Nf i ≤ 5000000)
    (xbr : ∀ i k, i < mb → k < mr → (Eb i).ownBlock = none ∨ (Eb i).ownBlock ≠ (Er k).ownBlock) (xbf : ∀ i k, i < mb → k < mf → (Eb i).ownBlock = none ∨ (Eb i).ownBlock ≠ (Ef k).ownBlock) (xrf : ∀ i k, i < mr → k < mf → (Er i).ownBlock = none ∨ (Er i).ownBlock ≠ (Ef k).ownBlock)
    (vbr : Vb.ownBlock = none ∨ Vb.ownBlock ≠ Vr.ownBlock) (vbf : Vb.ownBlock = none ∨ Vb.ownBlock ≠ Vf.ownBlock) (vrf : Vr.ownBlock = none ∨ Vr.ownBlock ≠ Vf.ownBlock) :
    Calls Tryz.prog 16 #[.pointer (some ⟨B, 0, none⟩)] W fun e w' => e = .returned (.bool true) ∧ Below S w0 w' := by
  obtain ⟨sb, kb, k1, s1⟩ := hb.isByte (w0 := w0) hSB hbB hbel cb ub lb
  obtain ⟨sr, kr, k2, s2⟩ := hr.isRange (w0 := w0) hSB hbB hbel cr ur lr
  obtain ⟨sf, kf, k3, s3⟩ := hf.isFrame (w0 := w0) hSB hbB hbel cf uf lf
  refine (apart3 kb kr kf (st_apart s1 s2 hb.eB hr.eB hb.vB hr.vB xbr vbr) (st_apart s1 s3 hb.eB hf.eB hb.vB hf.vB xbf vbf) (st_apart s2 s3 hr.eB hf.eB hr.vB hf.vB xrf vrf) w0 W ⟨k1, k2, k3, em, hbB, Nat.le_refl _, by omega, hbel⟩).mono (fun _ _ h => ⟨h.1, h.2.1⟩)
end Go.Proofs.YtimhbjlmpojhoaaGreatDoor.Ba

/-! An empty Book of several kinds; a list of bytes or of ranges is told to it. Written by mkbkw.py. -/
namespace Go.Proofs.YtimhbjlmpojhoaaGreatDoor.Ba
open Go Go.RowKit
open Go.Proofs.YtimhbjlmpojhoaaGreatDoor.Bq (OwnB own_keepP below_keepP keep_grown keep_below Sep)

theorem new_cell (W : World) (t : TypeId) : ∀ j, 1 ≤ j → j < 13 → (W.alloc (.cells #[.int .i64 0, .slice none 0 0, .slice none 0 0, .slice none 0 0, .slice none 0 0, .slice none 0 0, .slice none 0 0, .slice none 0 0, .slice none 0 0, .slice none 0 0, .slice none 0 0, .slice none 0 0, .slice none 0 0] t)).cell? ⟨W.heap.size, j, none⟩ = some (.slice none 0 0) := fun j h1 h2 => by
  have : j = 1 ∨ j = 2 ∨ j = 3 ∨ j = 4 ∨ j = 5 ∨ j = 6 ∨ j = 7 ∨ j = 8 ∨ j = 9 ∨ j = 10 ∨ j = 11 ∨ j = 12 := by omega
  rcases this with rfl | rfl | rfl | rfl | rfl | rfl | rfl | rfl | rfl | rfl | rfl | rfl <;> simp
theorem new_count (W : World) (t : TypeId) : (W.alloc (.cells #[.int .i64 0, .slice none 0 0, .slice none 0 0, .slice none 0 0, .slice none 0 0, .slice none 0 0, .slice none 0 0, .slice none 0 0, .slice none 0 0, .slice none 0 0, .slice none 0 0, .slice none 0 0, .slice none 0 0] t)).cell? ⟨W.heap.size, 0, none⟩ = some (.int .i64 ((0 : Nat) : Int)) := by simp
theorem new_frozen (W : World) (t : TypeId) (j : Nat) : (W.alloc (.cells #[.int .i64 0, .slice none 0 0, .slice none 0 0, .slice none 0 0, .slice none 0 0, .slice none 0 0, .slice none 0 0, .slice none 0 0, .slice none 0 0, .slice none 0 0, .slice none 0 0, .slice none 0 0, .slice none 0 0] t)).frozen? ⟨W.heap.size, j, none⟩ = false := World.frozen?_alloc_new _ _ _ _
/-- An empty book holds nothing of any kind. -/
theorem Hd.new (S : Nat) (W : World) (t : TypeId) (j HT T z : Nat) (h1 : 1 ≤ j) (h2 : j < 13) (E : Nat → Value) (nu N : Nat → Nat) (F : Nat → List Value) : Hd S W.heap.size j HT T z 0 (.slice none 0 0) E nu N F (W.alloc (.cells #[.int .i64 0, .slice none 0 0, .slice none 0 0, .slice none 0 0, .slice none 0 0, .slice none 0 0, .slice none 0 0, .slice none 0 0, .slice none 0 0, .slice none 0 0, .slice none 0 0, .slice none 0 0, .slice none 0 0] t)) :=
  ⟨new_cell W t j h1 h2, fun _ => rfl, World.ownsRow_nil _ _ _ _, fun k e => (by cases e), fun i hi => absurd hi (Nat.not_lt_zero _), fun i hi => absurd hi (Nat.not_lt_zero _), fun i j hi => absurd hi (Nat.not_lt_zero _)⟩

set_option maxRecDepth 20000 in
theorem toldBytes (S B nn m : Nat) (V : Value) (es : List Value) (W : World) (al : Option Addr) (nl cl : Nat) (hm : m ≤ 3000000) (hnn : nn ≤ 5000000) (hn : W.cell? ⟨B, 0, none⟩ = some (.int .i64 (nn : Int))) (hb : W.cell? ⟨B, 1, none⟩ = some V) (hfz : ∀ q, W.frozen? ⟨B, q, none⟩ = false) (hbB : B < W.heap.size) (hSW : S ≤ W.heap.size) (ent : W.ownsRow S 95 3 V m es) (hVB : ∀ k, V.ownBlock = some k → B < k) :
    Calls Tryz.prog 15 #[.pointer (some ⟨B, 0, none⟩), .slice al nl cl] W fun e w' => e = .returned (.tuple #[]) ∧ ∃ g c, Told S B 1 95 nn m V (.slice al nl cl) es W w' g c := by
  have HC := veil (tellByte S B nn m V es W al nl cl hm hnn hn hb hfz hbB hSW ent hVB)
  clear hn hb hfz ent hVB
  go_enter Tryz.func15, Tryz.ntmps15
  go_wp2_with fail
  refine HC.out.mono ?_
  rintro e w' ⟨rfl, h⟩
  go_wp2_with fail
  go_end0
  exact ⟨rfl, h⟩

set_option maxRecDepth 20000 in
theorem toldRanges (S B nn m : Nat) (V : Value) (es : List Value) (W : World) (al : Option Addr) (nl cl : Nat) (hm : m ≤ 3000000) (hnn : nn ≤ 5000000) (hn : W.cell? ⟨B, 0, none⟩ = some (.int .i64 (nn : Int))) (hb : W.cell? ⟨B, 6, none⟩ = some V) (hfz : ∀ q, W.frozen? ⟨B, q, none⟩ = false) (hbB : B < W.heap.size) (hSW : S ≤ W.heap.size) (ent : W.ownsRow S 112 3 V m es) (hVB : ∀ k, V.ownBlock = some k → B < k) :
    Calls Tryz.prog 89 #[.pointer (some ⟨B, 0, none⟩), .slice al nl cl] W fun e w' => e = .returned (.tuple #[]) ∧ ∃ g c, Told S B 6 112 nn m V (.slice al nl cl) es W w' g c := by
  have HC := veil (tellRange S B nn m V es W al nl cl hm hnn hn hb hfz hbB hSW ent hVB)
  clear hn hb hfz ent hVB
  go_enter Tryz.func89, Tryz.ntmps89
  go_wp2_with fail
  refine HC.out.mono ?_
  rintro e w' ⟨rfl, h⟩
  go_wp2_with fail
  go_end0
  exact ⟨rfl, h⟩
end Go.Proofs.YtimhbjlmpojhoaaGreatDoor.Ba
