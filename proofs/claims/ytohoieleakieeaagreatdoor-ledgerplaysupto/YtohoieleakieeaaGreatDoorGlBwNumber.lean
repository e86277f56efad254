/-
  A Book: its lists of this kind, told and filled. Written by mkbw.py.
-/
import Derived.Test.YtohoieleakieeaaGreatDoorGlBwHold
import Derived.Test.YtohoieleakieeaaGreatDoorGlBkNuG
import Derived.Deep.AppendLies
import Derived.Deep.RegionLaw
namespace Go.Proofs.YtohoieleakieeaaGreatDoor.Bw
open Go Go.RowKit
open Go.Proofs.YtohoieleakieeaaGreatDoor.Bq (OwnB own_keepP below_keepP keep_grown keep_below Sep)

theorem Tryz.infoHeldWNumber : (Tryz.prog.info? 102).map (fun i => (i.zero, i.size, i.bytes)) = some (some (.agg #[.slice none 0 0, .slice none 0 0, .int .i64 0]), 3, 56) := by kernel_rfl
set_option maxRecDepth 20000 in
set_option maxHeartbeats 2000000 in
theorem tellNumber (S B nn m : Nat) (V : Value) (es : List Value) (W : World) (al : Option Addr) (nl cl : Nat) (hm : m ≤ 3000000) (hnn : nn ≤ 5000000) (hn : W.cell? ⟨B, 0, none⟩ = some (.int .i64 (nn : Int))) (hb : W.cell? ⟨B, 2, none⟩ = some V) (hfz : ∀ q, W.frozen? ⟨B, q, none⟩ = false) (hbB : B < W.heap.size) (hSW : S ≤ W.heap.size) (ent : W.ownsRow S 102 3 V m es) (hVB : ∀ k, V.ownBlock = some k → B < k) :
    Calls Tryz.prog 39 #[.pointer (some ⟨B, 0, none⟩), .slice al nl cl] W fun e w' => e = .returned (.tuple #[]) ∧ ∃ g c, Told S B 2 102 nn m V (.slice al nl cl) es W w' g c := by
  obtain ⟨i0, hi, hz0, hz1, hz2⟩ := info_parts Tryz.infoHeldWNumber
  obtain ⟨av, cv, rfl⟩ : ∃ av cv, V = .slice av m cv := by
    rcases ent.2 with ⟨h1, h2⟩ | ⟨g, c, _, h1, _⟩
    · exact ⟨none, 0, by rw [h1, h2]⟩
    · exact ⟨some ⟨g, 0, none⟩, c, h1⟩
  have HNC := veil hn
  have HBC := veil hb
  have HV := veil hVB
  have hfz0 := hfz 0
  have hcn := hn
  have hcb := hb
  have hf6 := hfz 2
  have HENT := veil ent
  clear ent hn hb hfz hVB
  go_enter Tryz.func39, Tryz.ntmps39
  go_wp2_with fail
  obtain ⟨W1, hW1⟩ : ∃ W1, W1 = W.setCell ⟨B, 0, none⟩ (.int .i64 ((nn : Int) + 1)) := ⟨_, rfl⟩
  rw [← hW1]
  have hgr0 : W.grownBy W1 (some B) := by
    rw [hW1]
    exact ⟨rfl, rfl, rfl, by simp, fun b _ hb => Below.heap_setCell _ _ _ b (fun e => hb (by rw [e]))⟩
  have hVB : some B ≠ (Value.slice av m cv).ownBlock := by
    intro e
    have := HV.out B e.symm
    omega
  have HE1 := veil (HENT.out.kept hgr0 (.inr (fun e => hVB e.symm)))
  have hn1 : W1.cell? ⟨B, 0, none⟩ = some (.int .i64 ((nn : Int) + 1)) := by rw [hW1]; exact World.cell?_setCell_same _ _ _ HNC.out
  have hb1 : W1.cell? ⟨B, 2, none⟩ = some (.slice av m cv) := by rw [hW1, World.cell?_setCell_other _ _ _ _ (by intro e; injection e; omega)]; exact HBC.out
  have hf1 : W1.frozen? ⟨B, 2, none⟩ = false := by rw [hW1, World.frozen?_setCell]; exact hf6
  have hbB1 : B < W1.heap.size := by rw [hW1]; simpa using hbB
  have HS1 := veil (show W1.heap.size = W.heap.size by rw [hW1]; simp)
  have hS1 : S ≤ W1.heap.size := by rw [HS1.out]; exact hSW
  have hbA : ∀ o, (W1.alloc o).cell? ⟨B, 2, none⟩ = some (.slice av m cv) := fun o => (World.cell?_alloc_old _ _ _ (by show B ≠ _; omega)).trans hb1
  have hfA : ∀ o, (W1.alloc o).frozen? ⟨B, 2, none⟩ = false := fun o => (World.frozen?_of_block (w := W1) (a := ⟨B, 2, none⟩) ((World.grownBy_alloc W1 o none).block B hbB1 (by simp))).trans hf1
  have HW1 := veil hW1
  clear hgr0 hW1 hcn hcb hfz0 hf6 HENT
  go_region_law (refine step_append_lies _ (by rfl) _ _ 33 (by rfl) S 102 i0 _ 3 56 Tryz.underlying33 hi hz0 hz1 hz2 (by rfl) (by decide) (.slice av m cv) m es (by rfl) (by exact (HE1.out.alloc _)) ⟨W1.heap.size, 0, none⟩ 1 1 [.slice al nl cl, .slice none 0 0, .int .i64 ((nn : Int) + 1)] (by rfl) (by rfl) (by exact World.news_of_block (cs := #[.slice al nl cl, .slice none 0 0, .int .i64 ((nn : Int) + 1)]) (fr := (0, 0)) (heap_alloc_new W1 _)) (by simp [Value.oneCell']) (by decide) (by unfold maxLen; omega) (by omega) (by simp; omega) (W1.heap.size + 1) (by simp) ?_; intro g c w1 hown hgrow hat hglt; have hk1 : w1.cell? ⟨B, 2, none⟩ = some (.slice av m cv) := hgrow.cell (a := ⟨B, 2, none⟩) (by exact hbA _) hVB; have hk2 : w1.frozen? ⟨B, 2, none⟩ = false := (World.frozen?_of_block (a := ⟨B, 2, none⟩) (hgrow.block B (by simp; omega) hVB)).trans (by exact hfA _))
  all_goals
    go_wp2_with fail
    go_end0
    have hG := (World.grownBy_alloc W1 (.cells #[.slice al nl cl, .slice none 0 0, .int .i64 ((nn : Int) + 1)] 102) _).trans ⟨hgrow.os, hgrow.tape, hgrow.output, hgrow.size, hgrow.block⟩
    rw [HW1.out] at hG
    exact ⟨rfl, g, c, told_of (by decide) hbB HNC.out HBC.out HV.out hG (by rw [← HS1.out]; exact hat) hown⟩

/-- Some lists of this kind. -/
def kindNumber (S B H h m cap : Nat) (nu : Nat → Nat) (E : Nat → Value) (N : Nat → Nat) (X : Nat → List Value) (w0 : World) (hnu : ∀ i, i < m → nu i ≤ 5000000) (hm : m ≤ 3000000) (hN : ∀ i, i < m → N i ≤ 5000000) (sep : Sep S B h m E) (hlow : ∀ i, i < m → ∀ b, (E i).ownBlock = some b → S ≤ b ∧ b < H) (hh : h < H) :
    Kind S B H 49 61 73 (fun b => OwnB m E b ∨ b = h) where
  K := fun i W => match i with
    | 0 => Bn.St S B h m cap nu E N (fun _ => .slice none 0 0) X w0 W
    | 1 => Bn.St S B h m cap nu E N (fun _ => .slice none 0 0) (fun i => List.replicate (N i) (Bn.mark (nu i))) w0 W
    | _ => ∃ Lg, Bn.St S B h m cap nu E N Lg (fun i => List.replicate (N i) (Bn.mark (nu i))) w0 W ∧ Bn.Gr S B h m m nu E N Lg W ∧ ∀ j, j < m → ∀ b, (Lg j).ownBlock = some b → OwnB m E b ∨ H ≤ b
  fill := fun W s => (Bn.fill_any S B h m cap nu E N _ X w0 W hnu hm hN (fun _ _ => rfl) sep s).mono fun _ _ ⟨h1, h2, h3⟩ => ⟨h1, h2, keep_mono h3 fun _ e => .inl e⟩
  grow := fun W s hW => (Bn.bk_grow_any S B h m cap nu E N _ w0 W hnu hm hN (fun _ _ => rfl) sep s).mono fun _ _ ⟨h1, Lg, h2, h3, h4, h5⟩ => ⟨h1, ⟨Lg, h2, h3, fun j hj b e => (h5 j hj b e).imp id (fun q => Nat.le_trans hW q)⟩, h4⟩
  look := fun W ⟨Lg, s, g, _⟩ => Bn.look_any S B h m cap nu E N Lg w0 W hnu hm hN s g
  keep := fun i W W' st' s k hl => by
    have h1 : ∀ b, st' b → S ≤ b := fun b e => (hl b e).1
    have h2 : ¬ st' B := fun e => (hl B e).2.2.2 rfl
    have h3 : ¬ st' h := fun e => (hl h e).2.2.1 (.inr rfl)
    have h4 : ∀ i, i < m → ∀ b, (E i).ownBlock = some b → ¬ st' b := fun i hi b hb e => (hl b e).2.2.1 (.inl ⟨i, hi, hb⟩)
    match i, s with
    | 0, s => exact Bn.St.keep s k h1 h2 h3 h4
    | 1, s => exact Bn.St.keep s k h1 h2 h3 h4
    | _ + 2, ⟨Lg, s, g, q⟩ =>
      refine ⟨Lg, Bn.St.keep s k h1 h2 h3 h4, Bn.Gr.keep g k (fun j hj b hb e => ?_), q⟩
      rcases q j hj b hb with hq | hq
      · exact (hl b e).2.2.1 (.inl hq)
      · have := (hl b e).2.1
        omega
  low := fun b e => by
    rcases e with ⟨i, hi, hb⟩ | rfl
    · exact ⟨(hlow i hi b hb).1, (hlow i hi b hb).2, fun e => sep.eB i hi (by rw [hb, e])⟩
    · exact ⟨sep.Sh, hh, fun e => sep.Bh e.symm⟩

/-- What the book is when its lists of this kind are filled. -/
theorem Hd.stNumber {S B m : Nat} {V : Value} {E : Nat → Value} {nu N : Nat → Nat} {X : Nat → List Value} {w0 W : World} (h : Hd S B 2 102 23 1 m V E nu N (fun i => X i) W) (hm : 0 < m) (hSB : S ≤ B) (hbB : B < W.heap.size) (hb : Below S w0 W) :
    ∃ hh cap, Sep S B hh m E ∧ Bn.St S B hh m cap nu E N (fun _ => .slice none 0 0) X w0 W ∧ V.ownBlock = some hh ∧ hh < W.heap.size := by
  obtain ⟨hh, cap, rfl, hSh, hlt⟩ := h.ent.form hm
  have hBh := h.vB hh rfl
  have hcell := h.ent.cells (g := hh) rfl
  have hadd : ∀ q, (⟨hh, 0, none⟩ : Addr).add q = ⟨hh, q, none⟩ := fun q => by rw [Addr.add_lit]; simp
  refine ⟨hh, cap, ⟨hSB, hSh, by omega, fun i hi e => ?_, fun i hi e => ?_, h.ee⟩, ⟨by omega, hbB, hlt, h.b, fun i hi => ?_, fun i hi => ?_, fun i hi => ?_, fun q => h.ent.frozenAt q, h.rows, hb⟩, rfl, hlt⟩
  · exact (h.eB i hi B e).1 rfl
  · exact (h.eB i hi hh e).2 rfl
  · have := hcell (i * 3) _ (entsN_at E nu m i hi).1; rw [hadd] at this; exact this
  · have := hcell (i * 3 + 1) _ (entsN_at E nu m i hi).2.1; rw [hadd] at this; exact this
  · have := hcell (i * 3 + 2) _ (entsN_at E nu m i hi).2.2; rw [hadd] at this; exact this
/-- What this kind keeps to, whether there are lists of it or not. -/
theorem Hd.isNumber {S B m : Nat} {V : Value} {E : Nat → Value} {nu N : Nat → Nat} {X : Nat → List Value} {w0 W : World} (h : Hd S B 2 102 23 1 m V E nu N (fun i => X i) W) (hSB : S ≤ B) (hbB : B < W.heap.size) (hb : Below S w0 W) (hm : m ≤ 3000000) (hnu : ∀ i, i < m → nu i ≤ 5000000) (hN : ∀ i, i < m → N i ≤ 5000000) :
    ∃ (st : Nat → Prop) (k : Kind S B W.heap.size 49 61 73 st), k.K 0 W ∧ ∀ b, st b → OwnB m E b ∨ V.ownBlock = some b := by
  rcases Nat.eq_zero_or_pos m with h0 | h0
  · exact ⟨_, noneNumber S B W.heap.size, ⟨by rw [h.b, h.nil h0], hbB⟩, fun b e => e.elim⟩
  · obtain ⟨hh, cap, sep, s, hv, hlt⟩ := h.stNumber (w0 := w0) h0 hSB hbB hb
    refine ⟨_, kindNumber S B W.heap.size hh m cap nu E N X w0 hnu hm hN sep (fun i hi b e => (h.rows i hi).lt b e) hlt, s, fun b e => ?_⟩
    rcases e with e | rfl
    · exact .inl e
    · exact .inr hv
set_option maxRecDepth 20000 in
theorem toldNumbers (S B nn m : Nat) (V : Value) (es : List Value) (W : World) (al : Option Addr) (nl cl : Nat) (hm : m ≤ 3000000) (hnn : nn ≤ 5000000) (hn : W.cell? ⟨B, 0, none⟩ = some (.int .i64 (nn : Int))) (hb : W.cell? ⟨B, 2, none⟩ = some V) (hfz : ∀ q, W.frozen? ⟨B, q, none⟩ = false) (hbB : B < W.heap.size) (hSW : S ≤ W.heap.size) (ent : W.ownsRow S 102 3 V m es) (hVB : ∀ k, V.ownBlock = some k → B < k) :
    Calls Tryz.prog 15 #[.pointer (some ⟨B, 0, none⟩), .slice al nl cl] W fun e w' => e = .returned (.tuple #[]) ∧ ∃ g c, Told S B 2 102 nn m V (.slice al nl cl) es W w' g c := by
  have HC := veil (tellNumber S B nn m V es W al nl cl hm hnn hn hb hfz hbB hSW ent hVB)
  clear hn hb hfz ent hVB
  go_enter Tryz.func15, Tryz.ntmps15
  go_wp2_with fail
  refine HC.out.mono ?_
  rintro e w' ⟨rfl, h⟩
  go_wp2_with fail
  go_end0
  exact ⟨rfl, h⟩


/-- What this kind keeps to, and whose its blocks are. -/
theorem Kd.isNumber {S B nn : Nat} {own : Nat → Prop} {W : World} (h : Kd S B 2 102 23 1 nn (fun _ => True) own W) (hSB : S ≤ B) (hbB : B < W.heap.size) (hnn : nn ≤ 3000000) :
    ∃ (st : Nat → Prop) (k : Kind S B W.heap.size 49 61 73 st), k.K 0 W ∧ ∀ b, st b → own b ∧ (BT W b 23 ∨ BT W b 102) := by
    obtain ⟨m, V, E, nu, N, F, h1, hd, h3, h4, h5, h6⟩ := h
    have hd2 : Hd S B 2 102 23 1 m V E nu N (fun i => F i) W := hd
    obtain ⟨st, k, hk, hs⟩ := hd2.isNumber (w0 := W) hSB hbB (Below.refl _ _) (by omega) (fun i hi => Nat.le_trans (h3 i hi) (by omega)) h4
    refine ⟨st, k, hk, fun b e => ?_⟩
    rcases hs b e with q | q
    · obtain ⟨i, hi, e2⟩ := q
      exact ⟨h6 b (.inr ⟨i, hi, e2⟩), .inl (BT.of (hd.rows i hi) e2)⟩
    · exact ⟨h6 b (.inl q), .inr (BT.of hd.ent q)⟩
end Go.Proofs.YtohoieleakieeaaGreatDoor.Bw
