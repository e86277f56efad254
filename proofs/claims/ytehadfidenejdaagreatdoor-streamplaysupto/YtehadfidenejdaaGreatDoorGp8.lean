/-
  Out of BwRange, BwBR, SrPlain, PkVals.
-/
import Derived.Test.YtehadfidenejdaaGreatDoorGp4
import Derived.Test.YtehadfidenejdaaGreatDoorGp6
import Derived.Test.YtehadfidenejdaaGreatDoorGp7
import Derived.Deep.AppendLies
import Derived.Deep.RegionLaw
import Derived.Test.YtehadfidenejdaaGreatDoorGp5
import Derived.WalkKit
import Derived.Test.YtehadfidenejdaaGreatDoorGp1

/-! A Book: its lists of this kind, told and filled. Written by mkbw.py. -/
namespace Go.Proofs.YtehadfidenejdaaGreatDoor.Bw
open Go Go.RowKit
open Go.Proofs.YtehadfidenejdaaGreatDoor.Bq (OwnB own_keepP below_keepP keep_grown keep_below Sep)

theorem Tryz.infoHeldWRange : (Tryz.prog.info? 120).map (fun i => (i.zero, i.size, i.bytes)) = some (some (.agg #[.slice none 0 0, .slice none 0 0, .int .i64 0]), 3, 56) := by kernel_rfl
set_option maxRecDepth 20000 in
set_option maxHeartbeats 2000000 in
theorem tellRange (S B nn m : Nat) (V : Value) (es : List Value) (W : World) (al : Option Addr) (nl cl : Nat) (hm : m ≤ 3000000) (hnn : nn ≤ 5000000) (hn : W.cell? ⟨B, 0, none⟩ = some (.int .i64 (nn : Int))) (hb : W.cell? ⟨B, 6, none⟩ = some V) (hfz : ∀ q, W.frozen? ⟨B, q, none⟩ = false) (hbB : B < W.heap.size) (hSW : S ≤ W.heap.size) (ent : W.ownsRow S 120 3 V m es) (hVB : ∀ k, V.ownBlock = some k → B < k) :
    Calls Tryz.prog 92 #[.pointer (some ⟨B, 0, none⟩), .slice al nl cl] W fun e w' => e = .returned (.tuple #[]) ∧ ∃ g c, Told S B 6 120 nn m V (.slice al nl cl) es W w' g c := by
  obtain ⟨i0, hi, hz0, hz1, hz2⟩ := info_parts Tryz.infoHeldWRange
  obtain ⟨av, cv, rfl⟩ : ∃ av cv, V = .slice av m cv := by
    rcases ent.2 with ⟨h1, h2⟩ | ⟨g, c, _, h1, _⟩
    · exact ⟨none, 0, by rw [h1, h2]⟩
    · exact ⟨some ⟨g, 0, none⟩, c, h1⟩
  have HNC := veil hn
  have HBC := veil hb
  have HV := veil hVB
  have hfz0 := hfz 0
  have hcn := hn
  have hcb := hb
  have hf6 := hfz 6
  have HENT := veil ent
  clear ent hn hb hfz hVB
  go_enter Tryz.func92, Tryz.ntmps92
  go_wp2_with fail
  obtain ⟨W1, hW1⟩ : ∃ W1, W1 = W.setCell ⟨B, 0, none⟩ (.int .i64 ((nn : Int) + 1)) := ⟨_, rfl⟩
  rw [← hW1]
  have hgr0 : W.grownBy W1 (some B) := by
    rw [hW1]
    exact ⟨rfl, rfl, rfl, by simp, fun b _ hb => Below.heap_setCell _ _ _ b (fun e => hb (by rw [e]))⟩
  have hVB : some B ≠ (Value.slice av m cv).ownBlock := by
    intro e
    have := HV.out B e.symm
    omega
  have HE1 := veil (HENT.out.kept hgr0 (.inr (fun e => hVB e.symm)))
  have hn1 : W1.cell? ⟨B, 0, none⟩ = some (.int .i64 ((nn : Int) + 1)) := by rw [hW1]; exact World.cell?_setCell_same _ _ _ HNC.out
  have hb1 : W1.cell? ⟨B, 6, none⟩ = some (.slice av m cv) := by rw [hW1, World.cell?_setCell_other _ _ _ _ (by intro e; injection e; omega)]; exact HBC.out
  have hf1 : W1.frozen? ⟨B, 6, none⟩ = false := by rw [hW1, World.frozen?_setCell]; exact hf6
  have hbB1 : B < W1.heap.size := by rw [hW1]; simpa using hbB
  have HS1 := veil (show W1.heap.size = W.heap.size by rw [hW1]; simp)
  have hS1 : S ≤ W1.heap.size := by rw [HS1.out]; exact hSW
  have hbA : ∀ o, (W1.alloc o).cell? ⟨B, 6, none⟩ = some (.slice av m cv) := fun o => (World.cell?_alloc_old _ _ _ (by show B ≠ _; omega)).trans hb1
  have hfA : ∀ o, (W1.alloc o).frozen? ⟨B, 6, none⟩ = false := fun o => (World.frozen?_of_block (w := W1) (a := ⟨B, 6, none⟩) ((World.grownBy_alloc W1 o none).block B hbB1 (by simp))).trans hf1
  have HW1 := veil hW1
  clear hgr0 hW1 hcn hcb hfz0 hf6 HENT
  go_region_law (refine step_append_lies _ (by rfl) _ _ 46 (by rfl) S 120 i0 _ 3 56 Tryz.underlying46 hi hz0 hz1 hz2 (by rfl) (by decide) (.slice av m cv) m es (by rfl) (by exact (HE1.out.alloc _)) ⟨W1.heap.size, 0, none⟩ 1 1 [.slice al nl cl, .slice none 0 0, .int .i64 ((nn : Int) + 1)] (by rfl) (by rfl) (by exact World.news_of_block (cs := #[.slice al nl cl, .slice none 0 0, .int .i64 ((nn : Int) + 1)]) (fr := (0, 0)) (heap_alloc_new W1 _)) (by simp [Value.oneCell']) (by decide) (by unfold maxLen; omega) (by omega) (by simp; omega) (W1.heap.size + 1) (by simp) ?_; intro g c w1 hown hgrow hat hglt; have hk1 : w1.cell? ⟨B, 6, none⟩ = some (.slice av m cv) := hgrow.cell (a := ⟨B, 6, none⟩) (by exact hbA _) hVB; have hk2 : w1.frozen? ⟨B, 6, none⟩ = false := (World.frozen?_of_block (a := ⟨B, 6, none⟩) (hgrow.block B (by simp; omega) hVB)).trans (by exact hfA _))
  all_goals
    go_wp2_with fail
    go_end0
    have hG := (World.grownBy_alloc W1 (.cells #[.slice al nl cl, .slice none 0 0, .int .i64 ((nn : Int) + 1)] 120) _).trans ⟨hgrow.os, hgrow.tape, hgrow.output, hgrow.size, hgrow.block⟩
    rw [HW1.out] at hG
    exact ⟨rfl, g, c, told_of (by decide) hbB HNC.out HBC.out HV.out hG (by rw [← HS1.out]; exact hat) hown⟩

/-- Some lists of this kind. -/
def kindRange (S B H h m cap : Nat) (nu : Nat → Nat) (E : Nat → Value) (N : Nat → Nat) (X : Nat → List (Nat × Nat)) (w0 : World) (hnu : ∀ i, i < m → nu i ≤ 5000000) (hm : m ≤ 3000000) (hN : ∀ i, i < m → N i ≤ 5000000) (sep : Sep S B h m E) (hlow : ∀ i, i < m → ∀ b, (E i).ownBlock = some b → S ≤ b ∧ b < H) (hh : h < H) :
    Kind S B H 57 69 81 (fun b => OwnB m E b ∨ b = h) where
  K := fun i W => match i with
    | 0 => Bq.St S B h m cap nu E N (fun _ => .slice none 0 0) X w0 W
    | 1 => Bq.St S B h m cap nu E N (fun _ => .slice none 0 0) (fun i => List.replicate (N i) (Bq.mk (nu i))) w0 W
    | _ => ∃ Lg, Bq.St S B h m cap nu E N Lg (fun i => List.replicate (N i) (Bq.mk (nu i))) w0 W ∧ Bq.Gr S B h m m nu E N Lg W ∧ ∀ j, j < m → ∀ b, (Lg j).ownBlock = some b → OwnB m E b ∨ H ≤ b
  fill := fun W s => (Bq.fill_any S B h m cap nu E N _ X w0 W hnu hm hN (fun _ _ => rfl) sep s).mono fun _ _ ⟨h1, h2, h3⟩ => ⟨h1, h2, keep_mono h3 fun _ e => .inl e⟩
  grow := fun W s hW => (Bq.bk_grow_any S B h m cap nu E N _ w0 W hnu hm hN (fun _ _ => rfl) sep s).mono fun _ _ ⟨h1, Lg, h2, h3, h4, h5⟩ => ⟨h1, ⟨Lg, h2, h3, fun j hj b e => (h5 j hj b e).imp id (fun q => Nat.le_trans hW q)⟩, h4⟩
  look := fun W ⟨Lg, s, g, _⟩ => Bq.look_any S B h m cap nu E N Lg w0 W hnu hm hN s g
  keep := fun i W W' st' s k hl => by
    have h1 : ∀ b, st' b → S ≤ b := fun b e => (hl b e).1
    have h2 : ¬ st' B := fun e => (hl B e).2.2.2 rfl
    have h3 : ¬ st' h := fun e => (hl h e).2.2.1 (.inr rfl)
    have h4 : ∀ i, i < m → ∀ b, (E i).ownBlock = some b → ¬ st' b := fun i hi b hb e => (hl b e).2.2.1 (.inl ⟨i, hi, hb⟩)
    match i, s with
    | 0, s => exact Bq.St.keep s k h1 h2 h3 h4
    | 1, s => exact Bq.St.keep s k h1 h2 h3 h4
    | _ + 2, ⟨Lg, s, g, q⟩ =>
      refine ⟨Lg, Bq.St.keep s k h1 h2 h3 h4, Bq.Gr.keep g k (fun j hj b hb e => ?_), q⟩
      rcases q j hj b hb with hq | hq
      · exact (hl b e).2.2.1 (.inl hq)
      · have := (hl b e).2.1
        omega
  low := fun b e => by
    rcases e with ⟨i, hi, hb⟩ | rfl
    · exact ⟨(hlow i hi b hb).1, (hlow i hi b hb).2, fun e => sep.eB i hi (by rw [hb, e])⟩
    · exact ⟨sep.Sh, hh, fun e => sep.Bh e.symm⟩

/-- What the book is when its lists of this kind are filled. -/
theorem Hd.stRange {S B m : Nat} {V : Value} {E : Nat → Value} {nu N : Nat → Nat} {X : Nat → List (Nat × Nat)} {w0 W : World} (h : Hd S B 6 120 93 2 m V E nu N (fun i => vr (X i)) W) (hm : 0 < m) (hSB : S ≤ B) (hbB : B < W.heap.size) (hb : Below S w0 W) :
    ∃ hh cap, Sep S B hh m E ∧ Bq.St S B hh m cap nu E N (fun _ => .slice none 0 0) X w0 W ∧ V.ownBlock = some hh ∧ hh < W.heap.size := by
  obtain ⟨hh, cap, rfl, hSh, hlt⟩ := h.ent.form hm
  have hBh := h.vB hh rfl
  have hcell := h.ent.cells (g := hh) rfl
  have hadd : ∀ q, (⟨hh, 0, none⟩ : Addr).add q = ⟨hh, q, none⟩ := fun q => by rw [Addr.add_lit]; simp
  refine ⟨hh, cap, ⟨hSB, hSh, by omega, fun i hi e => ?_, fun i hi e => ?_, h.ee⟩, ⟨by omega, hbB, hlt, h.b, fun i hi => ?_, fun i hi => ?_, fun i hi => ?_, fun q => h.ent.frozenAt q, h.rows, hb⟩, rfl, hlt⟩
  · exact (h.eB i hi B e).1 rfl
  · exact (h.eB i hi hh e).2 rfl
  · have := hcell (i * 3) _ (entsN_at E nu m i hi).1; rw [hadd] at this; exact this
  · have := hcell (i * 3 + 1) _ (entsN_at E nu m i hi).2.1; rw [hadd] at this; exact this
  · have := hcell (i * 3 + 2) _ (entsN_at E nu m i hi).2.2; rw [hadd] at this; exact this
/-- What this kind keeps to, whether there are lists of it or not. -/
theorem Hd.isRange {S B m : Nat} {V : Value} {E : Nat → Value} {nu N : Nat → Nat} {X : Nat → List (Nat × Nat)} {w0 W : World} (h : Hd S B 6 120 93 2 m V E nu N (fun i => vr (X i)) W) (hSB : S ≤ B) (hbB : B < W.heap.size) (hb : Below S w0 W) (hm : m ≤ 3000000) (hnu : ∀ i, i < m → nu i ≤ 5000000) (hN : ∀ i, i < m → N i ≤ 5000000) :
    ∃ (st : Nat → Prop) (k : Kind S B W.heap.size 57 69 81 st), k.K 0 W ∧ ∀ b, st b → OwnB m E b ∨ V.ownBlock = some b := by
  rcases Nat.eq_zero_or_pos m with h0 | h0
  · exact ⟨_, noneRange S B W.heap.size, ⟨by rw [h.b, h.nil h0], hbB⟩, fun b e => e.elim⟩
  · obtain ⟨hh, cap, sep, s, hv, hlt⟩ := h.stRange (w0 := w0) h0 hSB hbB hb
    refine ⟨_, kindRange S B W.heap.size hh m cap nu E N X w0 hnu hm hN sep (fun i hi b e => (h.rows i hi).lt b e) hlt, s, fun b e => ?_⟩
    rcases e with e | rfl
    · exact .inl e
    · exact .inr hv
set_option maxRecDepth 20000 in
theorem toldRanges (S B nn m : Nat) (V : Value) (es : List Value) (W : World) (al : Option Addr) (nl cl : Nat) (hm : m ≤ 3000000) (hnn : nn ≤ 5000000) (hn : W.cell? ⟨B, 0, none⟩ = some (.int .i64 (nn : Int))) (hb : W.cell? ⟨B, 6, none⟩ = some V) (hfz : ∀ q, W.frozen? ⟨B, q, none⟩ = false) (hbB : B < W.heap.size) (hSW : S ≤ W.heap.size) (ent : W.ownsRow S 120 3 V m es) (hVB : ∀ k, V.ownBlock = some k → B < k) :
    Calls Tryz.prog 43 #[.pointer (some ⟨B, 0, none⟩), .slice al nl cl] W fun e w' => e = .returned (.tuple #[]) ∧ ∃ g c, Told S B 6 120 nn m V (.slice al nl cl) es W w' g c := by
  have HC := veil (tellRange S B nn m V es W al nl cl hm hnn hn hb hfz hbB hSW ent hVB)
  clear hn hb hfz ent hVB
  go_enter Tryz.func43, Tryz.ntmps43
  go_wp2_with fail
  refine HC.out.mono ?_
  rintro e w' ⟨rfl, h⟩
  go_wp2_with fail
  go_end0
  exact ⟨rfl, h⟩


/-- What this kind keeps to, and whose its blocks are. -/
theorem Kd.isRange {S B nn : Nat} {own : Nat → Prop} {W : World} (h : Kd S B 6 120 93 2 nn (fun x => ∃ l, x = vr l) own W) (hSB : S ≤ B) (hbB : B < W.heap.size) (hnn : nn ≤ 3000000) :
    ∃ (st : Nat → Prop) (k : Kind S B W.heap.size 57 69 81 st), k.K 0 W ∧ ∀ b, st b → own b ∧ (BT W b 93 ∨ BT W b 120) := by
    obtain ⟨m, V, E, nu, N, F, h1, hd, h3, h4, h5, h6⟩ := h
    have ex : ∃ Y : Nat → List (Nat × Nat), ∀ i, i < m → F i = vr (Y i) := by
      exact pick_all (fun i hi => h5 i hi)
    obtain ⟨Y, hY⟩ := ex
    have hd2 : Hd S B 6 120 93 2 m V E nu N (fun i => vr (Y i)) W := ⟨hd.b, hd.nil, hd.ent, hd.vB, fun i hi => by rw [← hY i hi]; exact hd.rows i hi, hd.eB, hd.ee⟩
    obtain ⟨st, k, hk, hs⟩ := hd2.isRange (w0 := W) hSB hbB (Below.refl _ _) (by omega) (fun i hi => Nat.le_trans (h3 i hi) (by omega)) h4
    refine ⟨st, k, hk, fun b e => ?_⟩
    rcases hs b e with q | q
    · obtain ⟨i, hi, e2⟩ := q
      exact ⟨h6 b (.inr ⟨i, hi, e2⟩), .inl (BT.of (hd.rows i hi) e2)⟩
    · exact ⟨h6 b (.inl q), .inr (BT.of hd.ent q)⟩
end Go.Proofs.YtehadfidenejdaaGreatDoor.Bw

/-! A Book that is told lists of these kinds: Byte, Range; older or newer than it. Written by mkbw.py. -/
namespace Go.Proofs.YtehadfidenejdaaGreatDoor.Bw
open Go Go.RowKit
open Go.Proofs.YtehadfidenejdaaGreatDoor.Bq (OwnB own_keepP below_keepP keep_grown keep_below Sep)

/-- A book that was told nn lists; own: the blocks that are its own. -/
structure BwBR (S B nn : Nat) (own : Nat → Prop) (W : World) : Prop where
  cnt : W.cell? ⟨B, 0, none⟩ = some (.int .i64 (nn : Int))
  kByte : Kd S B 1 95 5 1 nn (fun _ => True) own W
  kRange : Kd S B 6 120 93 2 nn (fun x => ∃ l, x = vr l) own W
  em : ∀ j, 1 ≤ j → j < 13 → j ≠ 1 → j ≠ 6 → W.cell? ⟨B, j, none⟩ = some (.slice none 0 0)
  fz : ∀ q, W.frozen? ⟨B, q, none⟩ = false
  SB : S ≤ B
  bB : B < W.heap.size
  oB : own B
theorem BwBR.keep {S B nn : Nat} {own st : Nat → Prop} {W W' : World} (h : BwBR S B nn own W) (k : KeepP st W W') (hs : ∀ b, own b → ¬ st b) : BwBR S B nn own W' := by
  have hb : W'.heap[B]? = W.heap[B]? := k.block B h.bB (hs B h.oB)
  exact ⟨(World.cell?_of_block (a := ⟨B, 0, none⟩) hb).trans h.cnt, h.kByte.keep h.bB k hs h.oB, h.kRange.keep h.bB k hs h.oB, fun j q1 q2 p0 p1 => (World.cell?_of_block (a := ⟨B, j, none⟩) hb).trans (h.em j q1 q2 p0 p1), fun j => (World.frozen?_of_block (a := ⟨B, j, none⟩) hb).trans (h.fz j), h.SB, Nat.lt_of_lt_of_le h.bB k.size, h.oB⟩
theorem BwBR.below {S B nn : Nat} {own : Nat → Prop} {W W' : World} (h : BwBR S B nn own W) (hb : Below W.heap.size W W') : BwBR S B nn own W' := h.keep (st := fun _ => False) (KeepP.of_below hb) (fun _ _ e => e)
theorem BwBR.new (S : Nat) (W : World) (t : TypeId) (hS : S ≤ W.heap.size) : BwBR S W.heap.size 0 (fun b => b = W.heap.size) (W.alloc (.cells #[.int .i64 0, .slice none 0 0, .slice none 0 0, .slice none 0 0, .slice none 0 0, .slice none 0 0, .slice none 0 0, .slice none 0 0, .slice none 0 0, .slice none 0 0, .slice none 0 0, .slice none 0 0, .slice none 0 0] t)) :=
  ⟨new_count W t, Kd.fresh t (by decide) (by decide) _, Kd.fresh t (by decide) (by decide) _, fun j h1 h2 _ _ => new_cell W t j h1 h2, new_frozen W t, hS, by simp, rfl⟩
/-- A list that the book does not know is told. -/
theorem BwBR.tellByte {S B nn : Nat} {own : Nat → Prop} {W : World} (h : BwBR S B nn own W) (al : Option Addr) (nl cl : Nat) (xl : List Value) (hn : nn ≤ 2900000) (hl : W.ownsRow S 5 1 (.slice al nl cl) nl xl) (hnl : nl ≤ 5000000) (hx : ∀ k, (Value.slice al nl cl).ownBlock = some k → ¬ own k) :
    Calls Tryz.prog 14 #[.pointer (some ⟨B, 0, none⟩), .slice al nl cl] W fun e w' => e = .returned (.tuple #[]) ∧ KeepP own W w' ∧ BwBR S B (nn + 1) (ownL own (.slice al nl cl) W.heap.size) w' := by
  obtain ⟨m, V, E, nu, N, F, h1, h2, h3, h4, h5, h6⟩ := h.kByte
  refine (toldBytes S B nn m V _ W al nl cl (by omega) (by omega) h.cnt h2.b h.fz h.bB (Nat.le_trans h.SB (Nat.le_of_lt h.bB)) h2.ent h2.vB).mono ?_
  rintro e w' ⟨rfl, g, c, t⟩
  exact ⟨rfl, told_keep t h.oB (fun b e => h6 b (.inl e)), ⟨t.n, Kd.tell h1 h2 h3 h4 h5 h6 h.bB h.oB t hl hx hnl trivial, h.kRange.stay (by decide) (by decide) (by decide) (by decide) h2.ent t, fun q q1 q2 p0 p1 => (t.oth q (by omega) p0).trans (h.em q q1 q2 p0 p1), fun q => (t.fz q).trans (h.fz q), h.SB, Nat.lt_of_lt_of_le h.bB t.keep.size, .inl h.oB⟩⟩
/-- A list that the book does not know is told. -/
theorem BwBR.tellRange {S B nn : Nat} {own : Nat → Prop} {W : World} (h : BwBR S B nn own W) (al : Option Addr) (nl cl : Nat) (xl : List (Nat × Nat)) (hn : nn ≤ 2900000) (hl : W.ownsRow S 93 2 (.slice al nl cl) nl (vr xl)) (hnl : nl ≤ 5000000) (hx : ∀ k, (Value.slice al nl cl).ownBlock = some k → ¬ own k) :
    Calls Tryz.prog 43 #[.pointer (some ⟨B, 0, none⟩), .slice al nl cl] W fun e w' => e = .returned (.tuple #[]) ∧ KeepP own W w' ∧ BwBR S B (nn + 1) (ownL own (.slice al nl cl) W.heap.size) w' := by
  obtain ⟨m, V, E, nu, N, F, h1, h2, h3, h4, h5, h6⟩ := h.kRange
  refine (toldRanges S B nn m V _ W al nl cl (by omega) (by omega) h.cnt h2.b h.fz h.bB (Nat.le_trans h.SB (Nat.le_of_lt h.bB)) h2.ent h2.vB).mono ?_
  rintro e w' ⟨rfl, g, c, t⟩
  exact ⟨rfl, told_keep t h.oB (fun b e => h6 b (.inl e)), ⟨t.n, h.kByte.stay (by decide) (by decide) (by decide) (by decide) h2.ent t, Kd.tell h1 h2 h3 h4 h5 h6 h.bB h.oB t hl hx hnl ⟨xl, rfl⟩, fun q q1 q2 p0 p1 => (t.oth q (by omega) p1).trans (h.em q q1 q2 p0 p1), fun q => (t.fz q).trans (h.fz q), h.SB, Nat.lt_of_lt_of_le h.bB t.keep.size, .inl h.oB⟩⟩
/-- What it was told is apart; what is not its own stays. -/
theorem BwBR.apart {S B nn : Nat} {own : Nat → Prop} {W : World} (h : BwBR S B nn own W) (hn : nn ≤ 3000000) :
    Calls Tryz.prog 30 #[.pointer (some ⟨B, 0, none⟩)] W fun e w' => e = .returned (.bool true) ∧ KeepP own W w' := by
  obtain ⟨sByte, kByte, cByte, dByte⟩ := h.kByte.isByte h.SB h.bB hn
  obtain ⟨sRange, kRange, cRange, dRange⟩ := h.kRange.isRange h.SB h.bB hn
  have key : ∀ j b, stOf sByte (fun _ => False) (fun _ => False) (fun _ => False) (fun _ => False) sRange (fun _ => False) (fun _ => False) (fun _ => False) (fun _ => False) (fun _ => False) (fun _ => False) j b → (j = 1 ∧ sByte b) ∨ (j = 6 ∧ sRange b) := by
    intro j b e
    unfold stOf at e
    split at e
    · exact .inl ⟨rfl, e⟩
    · exact e.elim
    · exact e.elim
    · exact e.elim
    · exact e.elim
    · exact .inr (⟨rfl, e⟩)
    · exact e.elim
    · exact e.elim
    · exact e.elim
    · exact e.elim
    · exact e.elim
    · exact e.elim
    · exact e.elim
  refine Calls.mono (apart_all kByte (noneNumber S B W.heap.size) (noneInt S B W.heap.size) (noneText S B W.heap.size) (noneBlob S B W.heap.size) kRange (noneFrame S B W.heap.size) (noneField S B W.heap.size) (noneMessage S B W.heap.size) (noneRule S B W.heap.size) (noneEvent S B W.heap.size) (noneReply S B W.heap.size) (fun i j hij b e1 e2 => ?_) W W ⟨cByte, ⟨h.em 2 (by decide) (by decide) (by decide) (by decide), h.bB⟩, ⟨h.em 3 (by decide) (by decide) (by decide) (by decide), h.bB⟩, ⟨h.em 4 (by decide) (by decide) (by decide) (by decide), h.bB⟩, ⟨h.em 5 (by decide) (by decide) (by decide) (by decide), h.bB⟩, cRange, ⟨h.em 7 (by decide) (by decide) (by decide) (by decide), h.bB⟩, ⟨h.em 8 (by decide) (by decide) (by decide) (by decide), h.bB⟩, ⟨h.em 9 (by decide) (by decide) (by decide) (by decide), h.bB⟩, ⟨h.em 10 (by decide) (by decide) (by decide) (by decide), h.bB⟩, ⟨h.em 11 (by decide) (by decide) (by decide) (by decide), h.bB⟩, ⟨h.em 12 (by decide) (by decide) (by decide) (by decide), h.bB⟩, h.bB, Nat.le_refl _, Nat.le_trans h.SB (Nat.le_of_lt h.bB), KeepP.refl _ _⟩) ?_
  · rcases key i b e1 with ⟨rfl, e1⟩ | ⟨rfl, e1⟩ <;> rcases key j b e2 with ⟨rfl, e2⟩ | ⟨rfl, e2⟩
    · exact hij rfl
    · rcases (dByte b e1).2 with q | q <;> rcases (dRange b e2).2 with r | r <;> exact absurd (q.eq r) (by decide)
    · rcases (dRange b e1).2 with q | q <;> rcases (dByte b e2).2 with r | r <;> exact absurd (q.eq r) (by decide)
    · exact hij rfl
  · rintro e w' ⟨rfl, k⟩
    refine ⟨rfl, keep_mono k fun b ⟨j, _, _, e⟩ => ?_⟩
    rcases key j b e with ⟨_, e⟩ | ⟨_, e⟩
    · exact (dByte b e).1
    · exact (dRange b e).1
end Go.Proofs.YtehadfidenejdaaGreatDoor.Bw

/-! Runs of places, plainly: pairs that rise, none of them empty, with a gap between each two; what is added and cut. No program in sight. -/
namespace Go.Proofs.YtehadfidenejdaaGreatDoor.Sr
open Go

abbrev Rn := Nat × Nat
def Has (l : List Rn) (x : Nat) : Prop := ∃ r ∈ l, r.1 ≤ x ∧ x < r.2
/-- Runs that rise, none of them empty, with a gap between each two. -/
def Canon : List Rn → Prop
  | [] => True
  | a :: l => a.1 < a.2 ∧ (∀ b ∈ l, a.2 < b.1) ∧ Canon l
theorem Canon.pos : ∀ {l : List Rn}, Canon l → ∀ r ∈ l, r.1 < r.2
  | [], _, r, hr => by cases hr
  | a :: l, h, r, hr => by
    rcases List.mem_cons.1 hr with rfl | hr
    · exact h.1
    · exact Canon.pos h.2.2 r hr
theorem has_nil {x : Nat} : ¬ Has [] x := fun ⟨_, h, _⟩ => by cases h
theorem has_cons {a : Rn} {l : List Rn} {x : Nat} : Has (a :: l) x ↔ (a.1 ≤ x ∧ x < a.2) ∨ Has l x := by
  unfold Has
  simp only [List.mem_cons, exists_eq_or_imp]
theorem has_append {l m : List Rn} {x : Nat} : Has (l ++ m) x ↔ Has l x ∨ Has m x := by
  induction l with
  | nil => simp [has_nil]
  | cons a l ih => rw [List.cons_append, has_cons, has_cons, ih, or_assoc]
theorem canon_append : ∀ {l m : List Rn}, Canon (l ++ m) ↔ Canon l ∧ Canon m ∧ ∀ a ∈ l, ∀ b ∈ m, a.2 < b.1
  | [], m => by simp [Canon]
  | a :: l, m => by
    rw [List.cons_append]
    show (_ ∧ _ ∧ Canon (l ++ m)) ↔ (_ ∧ _ ∧ Canon l) ∧ _
    rw [canon_append]
    constructor
    · rintro ⟨h1, h2, h3, h4, h5⟩
      refine ⟨⟨h1, fun b hb => h2 b (List.mem_append.2 (.inl hb)), h3⟩, h4, fun c hc b hb => ?_⟩
      rcases List.mem_cons.1 hc with rfl | hc
      · exact h2 b (List.mem_append.2 (.inr hb))
      · exact h5 c hc b hb
    · rintro ⟨⟨h1, h2, h3⟩, h4, h5⟩
      refine ⟨h1, fun b hb => ?_, h3, h4, fun c hc b hb => h5 c (List.mem_cons_of_mem _ hc) b hb⟩
      rcases List.mem_append.1 hb with hb | hb
      · exact h2 b hb
      · exact h5 a (List.mem_cons_self ..) b hb

/-- The first so many of which one thing holds, where it holds of a beginning: how many. -/
def cnt (p : Rn → Bool) (l : List Rn) : Nat := (l.takeWhile p).length
theorem cnt_le (p : Rn → Bool) (l : List Rn) : cnt p l ≤ l.length := (List.takeWhile_prefix p).length_le
theorem cnt_cons {p : Rn → Bool} {a : Rn} {l : List Rn} : cnt p (a :: l) = if p a then cnt p l + 1 else 0 := by
  unfold cnt
  rw [List.takeWhile_cons]
  split <;> simp
theorem cnt_yes {p : Rn → Bool} : ∀ {l : List Rn} {i : Nat} {r : Rn}, i < cnt p l → l[i]? = some r → p r = true
  | [], i, r, h, e => by simp at e
  | a :: l, i, r, h, e => by
    rw [cnt_cons] at h
    split at h
    · rename_i c
      cases i with
      | zero => simp at e; rw [← e]; exact c
      | succ i => exact cnt_yes (l := l) (i := i) (by omega) (by simpa using e)
    · omega
theorem cnt_no {p : Rn → Bool} : ∀ {l : List Rn} {r : Rn}, l[cnt p l]? = some r → p r = false
  | [], r, e => by simp at e
  | a :: l, r, e => by
    rw [cnt_cons] at e
    split at e
    · exact cnt_no (by simpa using e)
    · rename_i c
      simp at e c
      rw [← e]; exact c

/-- Does a run end ahead of another one (or just there); likewise, with a gap between them. -/
def aheadB (a b : Rn) : Bool := decide (a.2 ≤ b.1)
def apartB (a b : Rn) : Bool := decide (a.2 < b.1)
/-- From which one on, up to which they lie neither ahead of a run nor behind it. -/
def lo (bef : Rn → Rn → Bool) (l : List Rn) (r : Rn) : Nat := cnt (fun a => bef a r) l
def hi (bef : Rn → Rn → Bool) (l : List Rn) (r : Rn) : Nat := lo bef l r + cnt (fun a => !bef r a) (l.drop (lo bef l r))
theorem lo_le_hi (bef : Rn → Rn → Bool) (l : List Rn) (r : Rn) : lo bef l r ≤ hi bef l r := Nat.le_add_right _ _
theorem hi_le (bef : Rn → Rn → Bool) (l : List Rn) (r : Rn) : hi bef l r ≤ l.length := by
  unfold hi
  have h1 := cnt_le (fun a => !bef r a) (l.drop (lo bef l r))
  have h2 : lo bef l r ≤ l.length := cnt_le _ l
  rw [List.length_drop] at h1
  omega
/-- What is put in the place of some of them. -/
def repl (l : List Rn) (i j : Nat) (v : List Rn) : List Rn := l.take i ++ v ++ l.drop j
def fst (l : List Rn) : Rn := l.headD (0, 0)
def gl (l : List Rn) (i : Nat) : Rn := l.getD i (0, 0)
def add (l : List Rn) (r : Rn) : List Rn :=
  if r.1 = r.2 then l
  else repl l (lo apartB l r) (hi apartB l r) [if lo apartB l r < hi apartB l r then (min r.1 (gl l (lo apartB l r)).1, max r.2 (gl l (hi apartB l r - 1)).2) else r]
def stay (l : List Rn) (i j : Nat) (r : Rn) : List Rn := add (add [] (min (gl l i).1 r.1, r.1)) (r.2, max (gl l (j - 1)).2 r.2)
def cut (l : List Rn) (r : Rn) : List Rn :=
  if lo aheadB l r = hi aheadB l r then l
  else repl l (lo aheadB l r) (hi aheadB l r) (stay l (lo aheadB l r) (hi aheadB l r) r)
def each (f : List Rn → Rn → List Rn) (l : List Rn) (by' : List Rn) : List Rn := by'.foldl f l
def missing (l : List Rn) (r : Rn) : List Rn := each cut (add [] r) ((l.take (hi aheadB l r)).drop (lo aheadB l r))

/-- A list in three parts: those that lie ahead of a run, those that meet it, those behind. -/
structure Parts (bef : Rn → Rn → Bool) (l : List Rn) (r : Rn) (A B C : List Rn) : Prop where
  eq : l = A ++ B ++ C
  la : A.length = lo bef l r
  lb : B.length = hi bef l r - lo bef l r
  ahead : ∀ a ∈ A, bef a r = true
  mid : ∀ b ∈ B, bef r b = false
  fst : ∀ b, B.head? = some b → bef b r = false
  fstC : B = [] → ∀ c, C.head? = some c → bef c r = false
  sndC : ∀ c, C.head? = some c → bef r c = true
theorem parts (bef : Rn → Rn → Bool) (l : List Rn) (r : Rn) : ∃ A B C, Parts bef l r A B C := by
  have h1 : lo bef l r ≤ l.length := cnt_le _ l
  have h2 := lo_le_hi bef l r
  have h3 := hi_le bef l r
  have hc : hi bef l r = lo bef l r + cnt (fun a => !bef r a) (l.drop (lo bef l r)) := rfl
  have lB : ((l.drop (lo bef l r)).take (hi bef l r - lo bef l r)).length = hi bef l r - lo bef l r := by rw [List.length_take, List.length_drop]; omega
  refine ⟨l.take (lo bef l r), (l.drop (lo bef l r)).take (hi bef l r - lo bef l r), l.drop (hi bef l r), ?_, by rw [List.length_take]; omega, lB, ?_, ?_, ?_, ?_, ?_⟩
  · rw [List.append_assoc]
    conv => lhs; rw [← List.take_append_drop (lo bef l r) l, ← List.take_append_drop (hi bef l r - lo bef l r) (l.drop (lo bef l r)), List.drop_drop]
    rw [show lo bef l r + (hi bef l r - lo bef l r) = hi bef l r by omega]
  · intro a ha
    obtain ⟨i, e⟩ := List.mem_iff_getElem?.1 ha
    rw [List.getElem?_take] at e
    split at e
    · rename_i c; exact cnt_yes (p := fun a => bef a r) c e
    · cases e
  · intro b hb
    obtain ⟨i, e⟩ := List.mem_iff_getElem?.1 hb
    rw [List.getElem?_take] at e
    split at e
    · rename_i c
      have := cnt_yes (p := fun a => !bef r a) (l := l.drop (lo bef l r)) (i := i) (by omega) e
      simpa using this
    · cases e
  · intro b e
    rw [List.head?_eq_getElem?, List.getElem?_take] at e
    split at e
    · rw [List.getElem?_drop] at e
      exact cnt_no (p := fun a => bef a r) e
    · cases e
  · intro hB c e
    have : hi bef l r - lo bef l r = 0 := by rw [← lB, hB]; rfl
    rw [List.head?_eq_getElem?, List.getElem?_drop, show hi bef l r + 0 = lo bef l r by omega] at e
    exact cnt_no (p := fun a => bef a r) e
  · intro c e
    rw [List.head?_eq_getElem?, List.getElem?_drop] at e
    have := cnt_no (p := fun a => !bef r a) (l := l.drop (lo bef l r)) (r := c) (by rw [List.getElem?_drop]; exact e)
    simpa using this
/-- Of runs that rise: all that lie in the middle part meet the run, all behind it lie behind it. -/
theorem Parts.behind {bef : Rn → Rn → Bool} {l A B C : List Rn} {r : Rn} (h : Parts bef l r A B C) (hc : Canon l)
    (up : ∀ a b, bef r a = true → a.1 < b.1 → bef r b = true) : ∀ c ∈ C, bef r c = true := by
  intro c hC
  have hl := hc
  rw [h.eq] at hl
  have h2 := (canon_append.1 hl).2.1
  cases C with
  | nil => cases hC
  | cons d C =>
    have hd := h.sndC d rfl
    rcases List.mem_cons.1 hC with rfl | hC
    · exact hd
    · exact up d c hd (by have := h2.2.1 c hC; have := h2.1; omega)
theorem Parts.meet {bef : Rn → Rn → Bool} {l A B C : List Rn} {r : Rn} (h : Parts bef l r A B C) (hc : Canon l)
    (up : ∀ a b, bef b r = true → a.2 ≤ b.2 → bef a r = true) : ∀ b ∈ B, bef b r = false := by
  intro b hB
  have hl := hc
  rw [h.eq] at hl
  have h2 := (canon_append.1 (canon_append.1 hl).1).2.1
  cases B with
  | nil => cases hB
  | cons d B =>
    have hd := h.fst d rfl
    rcases List.mem_cons.1 hB with rfl | hB
    · exact hd
    · cases e : bef b r with
      | false => rfl
      | true =>
        have := h2.2.1 b hB
        have := h2.2.2.pos b hB
        exact absurd (up d b e (by omega)) (by rw [hd]; simp)
theorem Parts.repl {bef : Rn → Rn → Bool} {l A B C : List Rn} {r : Rn} (h : Parts bef l r A B C) (v : List Rn) : repl l (lo bef l r) (hi bef l r) v = A ++ v ++ C := by
  unfold Sr.repl
  have h1 := lo_le_hi bef l r
  have t1 : ∀ k, l.take k = (A ++ B ++ C).take k := fun k => by rw [← h.eq]
  have t2 : ∀ k, l.drop k = (A ++ B ++ C).drop k := fun k => by rw [← h.eq]
  have e1 : l.take (lo bef l r) = A := by
    rw [t1, List.append_assoc]
    exact List.take_left' h.la
  have e2 : l.drop (hi bef l r) = C := by
    rw [t2]
    exact List.drop_left' (by rw [List.length_append, h.la, h.lb]; omega)
  rw [e1, e2]
theorem Parts.lt {bef : Rn → Rn → Bool} {l A B C : List Rn} {r : Rn} (h : Parts bef l r A B C) : lo bef l r < hi bef l r ↔ B ≠ [] := by
  have := h.lb
  rw [← List.length_pos_iff]
  omega
theorem Parts.glA {bef : Rn → Rn → Bool} {l A B C : List Rn} {r b : Rn} (h : Parts bef l r A (b :: B) C) : gl l (lo bef l r) = b := by
  unfold gl
  have t1 : ∀ k : Nat, l[k]? = (A ++ (b :: B) ++ C)[k]? := fun k => by rw [← h.eq]
  rw [List.getD_eq_getElem?_getD, t1]
  rw [← h.la, List.append_assoc, List.getElem?_append_right (Nat.le_refl _), Nat.sub_self]
  rfl
theorem Parts.glB {bef : Rn → Rn → Bool} {l A B C : List Rn} {r b : Rn} (h : Parts bef l r A (B ++ [b]) C) : gl l (hi bef l r - 1) = b := by
  unfold gl
  have h1 := lo_le_hi bef l r
  have h2 := h.lb
  rw [List.length_append, List.length_singleton] at h2
  have t1 : ∀ k : Nat, l[k]? = (A ++ (B ++ [b]) ++ C)[k]? := fun k => by rw [← h.eq]
  rw [List.getD_eq_getElem?_getD, t1]
  rw [List.getElem?_append_left (by rw [List.length_append, List.length_append, h.la, List.length_singleton]; omega), List.getElem?_append_right (by rw [h.la]; omega),
    List.getElem?_append_right (by rw [h.la]; omega), h.la, show hi bef l r - 1 - lo bef l r - B.length = 0 by omega]
  rfl
theorem ends (B : List Rn) (h : B ≠ []) : ∃ b B', B = b :: B' ∧ ∃ e B'', B = B'' ++ [e] := by
  obtain ⟨b, B', rfl⟩ := List.exists_cons_of_ne_nil h
  refine ⟨b, B', rfl, (b :: B').getLast h, (b :: B').dropLast, ?_⟩
  exact (List.dropLast_concat_getLast h).symm

theorem add_laws {l : List Rn} (hc : Canon l) {r : Rn} (hr : r.1 ≤ r.2) : Canon (add l r) ∧ ∀ x, Has (add l r) x ↔ Has l x ∨ (r.1 ≤ x ∧ x < r.2) := by
  unfold add
  by_cases c0 : r.1 = r.2
  · rw [if_pos c0]
    exact ⟨hc, fun x => by constructor; exact .inl; rintro (h | h); exact h; omega⟩
  rw [if_neg c0]
  obtain ⟨A, B, C, h⟩ := parts apartB l r
  rw [h.repl]
  have hC := h.behind hc (fun a b h1 h2 => by simp only [apartB, decide_eq_true_eq] at h1 ⊢; omega)
  have hB := h.meet hc (fun a b h1 h2 => by simp only [apartB, decide_eq_true_eq] at h1 ⊢; omega)
  have hA := h.ahead
  have hM := h.mid
  simp only [apartB, decide_eq_true_eq, decide_eq_false_iff_not] at hA hB hC hM
  have hl := hc
  rw [h.eq] at hl
  obtain ⟨hAB, cC, hABC⟩ := canon_append.1 hl
  obtain ⟨cA, cB, hab⟩ := canon_append.1 hAB
  have hx : ∀ x, Has l x ↔ Has A x ∨ Has B x ∨ Has C x := fun x => by rw [h.eq, has_append, has_append, or_assoc]
  -- in either case one run that spans what it is to
  have key : ∀ v : Rn, v.1 < v.2 → (∀ a ∈ A, a.2 < v.1) → (∀ c ∈ C, v.2 < c.1) → (∀ x, (v.1 ≤ x ∧ x < v.2) ↔ Has B x ∨ (r.1 ≤ x ∧ x < r.2)) →
      Canon (A ++ [v] ++ C) ∧ ∀ x, Has (A ++ [v] ++ C) x ↔ Has l x ∨ (r.1 ≤ x ∧ x < r.2) := by
    intro v h1 h2 h3 h4
    constructor
    · refine canon_append.2 ⟨canon_append.2 ⟨cA, ⟨h1, fun b hb => (by cases hb), trivial⟩, fun a ha b hb => ?_⟩, cC, fun a ha b hb => ?_⟩
      · rw [List.mem_singleton.1 hb]; exact h2 a ha
      · rcases List.mem_append.1 ha with ha | ha
        · exact hABC a (List.mem_append.2 (.inl ha)) b hb
        · rw [List.mem_singleton.1 ha]; exact h3 b hb
    · intro x
      rw [has_append, has_append, has_cons, hx, h4]
      simp only [has_nil, or_false]
      constructor
      · rintro ((h | h | h) | h) <;> simp [h]
      · rintro ((h | h | h) | h) <;> simp [h]
  by_cases c1 : lo apartB l r < hi apartB l r
  · rw [if_pos c1]
    obtain ⟨b, B', e1, e, B'', e2⟩ := ends B (h.lt.1 c1)
    have g1 : gl l (lo apartB l r) = b := by rw [e1] at h; exact h.glA
    have g2 : gl l (hi apartB l r - 1) = e := by rw [e2] at h; exact h.glB
    rw [g1, g2]
    have mb : b ∈ B := by rw [e1]; exact List.mem_cons_self ..
    have me : e ∈ B := by rw [e2]; exact List.mem_append.2 (.inr (List.mem_singleton.2 rfl))
    have b1 := hB b mb
    have b2 := hM b mb
    have e3 := hB e me
    have e4 := hM e me
    have pb := cB.pos b mb
    have pe := cB.pos e me
    refine key _ (by show min r.1 b.1 < max r.2 e.2; omega) (fun a ha => by have := hA a ha; have := hab a ha b mb; show a.2 < min r.1 b.1; omega)
      (fun c hc' => by have := hC c hc'; have := hABC e (List.mem_append.2 (.inr me)) c hc'; show max r.2 e.2 < c.1; omega) (fun x => ?_)
    show min r.1 b.1 ≤ x ∧ x < max r.2 e.2 ↔ _
    have hin : ∀ y ∈ B, b.1 ≤ y.1 ∧ y.2 ≤ e.2 := by
      intro y hy
      constructor
      · rw [e1] at hy cB
        rcases List.mem_cons.1 hy with rfl | hy
        · exact Nat.le_refl _
        · have := cB.2.1 y hy; omega
      · rw [e2] at hy cB
        rcases List.mem_append.1 hy with hy | hy
        · have := (canon_append.1 cB).2.2 y hy e (List.mem_singleton.2 rfl); omega
        · rw [List.mem_singleton.1 hy]; exact Nat.le_refl _
    constructor
    · intro hx'
      by_cases c2 : r.1 ≤ x ∧ x < r.2
      · exact .inr c2
      · refine .inl ?_
        by_cases c3 : x < r.1
        · exact ⟨b, mb, by omega, by omega⟩
        · exact ⟨e, me, by omega, by omega⟩
    · rintro (⟨y, hy, h1, h2⟩ | h1)
      · have := hin y hy; omega
      · omega
  · rw [if_neg c1]
    have eB : B = [] := by
      cases B with
      | nil => rfl
      | cons b B => exact absurd (h.lt.2 (by simp)) c1
    refine key r (by omega) hA hC (fun x => ?_)
    rw [eB]
    simp only [has_nil, false_or]
/-- A run of a list that rises has its first place and its last one. -/
theorem Canon.has {l : List Rn} (h : Canon l) {r : Rn} (hr : r ∈ l) : Has l r.1 ∧ Has l (r.2 - 1) := by
  have := h.pos r hr
  exact ⟨⟨r, hr, Nat.le_refl _, this⟩, ⟨r, hr, by omega, by omega⟩⟩
theorem cut_laws {l : List Rn} (hc : Canon l) {r : Rn} (hr : r.1 ≤ r.2) : Canon (cut l r) ∧ ∀ x, Has (cut l r) x ↔ Has l x ∧ ¬ (r.1 ≤ x ∧ x < r.2) := by
  unfold cut
  obtain ⟨A, B, C, h⟩ := parts aheadB l r
  rw [h.repl]
  have hC := h.behind hc (fun a b h1 h2 => by simp only [aheadB, decide_eq_true_eq] at h1 ⊢; omega)
  have hB := h.meet hc (fun a b h1 h2 => by simp only [aheadB, decide_eq_true_eq] at h1 ⊢; omega)
  have hA := h.ahead
  have hM := h.mid
  simp only [aheadB, decide_eq_true_eq, decide_eq_false_iff_not] at hA hB hC hM
  have hl := hc
  rw [h.eq] at hl
  obtain ⟨hAB, cC, hABC⟩ := canon_append.1 hl
  obtain ⟨cA, cB, hab⟩ := canon_append.1 hAB
  have hx : ∀ x, Has l x ↔ Has A x ∨ Has B x ∨ Has C x := fun x => by rw [h.eq, has_append, has_append, or_assoc]
  have nA : ∀ x, Has A x → x < r.1 := fun x ⟨a, ha, _, h2⟩ => by have := hA a ha; omega
  have nC : ∀ x, Has C x → r.2 ≤ x := fun x ⟨a, ha, h1, _⟩ => by have := hC a ha; omega
  by_cases c1 : lo aheadB l r = hi aheadB l r
  · rw [if_pos c1]
    have eB : B = [] := by
      cases B with
      | nil => rfl
      | cons b B => exact absurd (h.lt.2 (by simp)) (by omega)
    refine ⟨hc, fun x => ⟨fun h1 => ⟨h1, ?_⟩, fun h1 => h1.1⟩⟩
    rw [hx, eB] at h1
    rcases h1 with h1 | h1 | h1
    · have := nA x h1; omega
    · exact absurd h1 has_nil
    · have := nC x h1; omega
  rw [if_neg c1]
  have c2 : lo aheadB l r < hi aheadB l r := by have := lo_le_hi aheadB l r; omega
  obtain ⟨b, B', e1, e, B'', e2⟩ := ends B (h.lt.1 c2)
  have g1 : gl l (lo aheadB l r) = b := by rw [e1] at h; exact h.glA
  have g2 : gl l (hi aheadB l r - 1) = e := by rw [e2] at h; exact h.glB
  unfold stay
  rw [g1, g2]
  have mb : b ∈ B := by rw [e1]; exact List.mem_cons_self ..
  have me : e ∈ B := by rw [e2]; exact List.mem_append.2 (.inr (List.mem_singleton.2 rfl))
  have b1 := hB b mb
  have b2 := hM b mb
  have e3 := hB e me
  have e4 := hM e me
  have pb := cB.pos b mb
  have pe := cB.pos e me
  have hin : ∀ y ∈ B, b.1 ≤ y.1 ∧ y.2 ≤ e.2 := by
    intro y hy
    constructor
    · rw [e1] at hy cB
      rcases List.mem_cons.1 hy with rfl | hy
      · exact Nat.le_refl _
      · have := cB.2.1 y hy; omega
    · rw [e2] at hy cB
      rcases List.mem_append.1 hy with hy | hy
      · have := (canon_append.1 cB).2.2 y hy e (List.mem_singleton.2 rfl); omega
      · rw [List.mem_singleton.1 hy]; exact Nat.le_refl _
  obtain ⟨s1, s2⟩ := add_laws (l := []) (r := (min b.1 r.1, r.1)) trivial (by show min b.1 r.1 ≤ r.1; omega)
  obtain ⟨s3, s4⟩ := add_laws (r := (r.2, max e.2 r.2)) s1 (by show r.2 ≤ max e.2 r.2; omega)
  have s5 : ∀ x, Has (add (add [] (min b.1 r.1, r.1)) (r.2, max e.2 r.2)) x ↔ (b.1 ≤ x ∧ x < r.1) ∨ (r.2 ≤ x ∧ x < e.2) := fun x => by
    rw [s4, s2]
    simp only [has_nil, false_or]
    omega
  generalize add (add [] (min b.1 r.1, r.1)) (r.2, max e.2 r.2) = S at s3 s5
  have hbe := hin b mb
  have hin2 : ∀ y ∈ S, b.1 ≤ y.1 ∧ y.2 ≤ e.2 := by
    intro y hy
    have h1 := (s5 _).1 (s3.has hy).1
    have h2 := (s5 _).1 (s3.has hy).2
    have := s3.pos y hy
    omega
  constructor
  · refine canon_append.2 ⟨canon_append.2 ⟨cA, s3, fun a ha y hy => ?_⟩, cC, fun a ha y hy => ?_⟩
    · have := hab a ha b mb; have := hin2 y hy; omega
    · rcases List.mem_append.1 ha with ha | ha
      · exact hABC a (List.mem_append.2 (.inl ha)) y hy
      · have := hin2 a ha; have := hABC e (List.mem_append.2 (.inr me)) y hy; omega
  · intro x
    rw [has_append, has_append, hx, s5]
    constructor
    · rintro ((h1 | h1 | h1) | h1)
      · exact ⟨.inl h1, by have := nA x h1; omega⟩
      · exact ⟨.inr (.inl ⟨b, mb, by omega, by omega⟩), by omega⟩
      · exact ⟨.inr (.inl ⟨e, me, by omega, by omega⟩), by omega⟩
      · exact ⟨.inr (.inr h1), by have := nC x h1; omega⟩
    · rintro ⟨h1 | ⟨y, hy, h1, h2⟩ | h1, h3⟩
      · exact .inl (.inl h1)
      · have := hin y hy
        exact .inl (.inr (by omega))
      · exact .inr h1
theorem each_add {by' : List Rn} : ∀ {l : List Rn}, Canon l → (∀ r ∈ by', r.1 ≤ r.2) → Canon (each add l by') ∧ ∀ x, Has (each add l by') x ↔ Has l x ∨ Has by' x := by
  induction by' with
  | nil => intro l h _; exact ⟨h, fun x => by show Has l x ↔ _; simp [has_nil]⟩
  | cons r by' ih =>
    intro l h hb
    obtain ⟨h1, h2⟩ := add_laws h (hb r (List.mem_cons_self ..))
    obtain ⟨h3, h4⟩ := ih h1 (fun a ha => hb a (List.mem_cons_of_mem _ ha))
    refine ⟨h3, fun x => ?_⟩
    show Has (each add (add l r) by') x ↔ _
    rw [h4, h2, has_cons, or_assoc]
theorem each_cut {by' : List Rn} : ∀ {l : List Rn}, Canon l → (∀ r ∈ by', r.1 ≤ r.2) → Canon (each cut l by') ∧ ∀ x, Has (each cut l by') x ↔ Has l x ∧ ¬ Has by' x := by
  induction by' with
  | nil => intro l h _; exact ⟨h, fun x => by show Has l x ↔ _; simp [has_nil]⟩
  | cons r by' ih =>
    intro l h hb
    obtain ⟨h1, h2⟩ := cut_laws h (hb r (List.mem_cons_self ..))
    obtain ⟨h3, h4⟩ := ih h1 (fun a ha => hb a (List.mem_cons_of_mem _ ha))
    refine ⟨h3, fun x => ?_⟩
    show Has (each cut (cut l r) by') x ↔ _
    rw [h4, h2, has_cons, not_or, and_assoc]
/-- The runs of a list that meet a run. -/
def mids (l : List Rn) (r : Rn) : List Rn := (l.take (hi aheadB l r)).drop (lo aheadB l r)
theorem mids_mem {l : List Rn} {r a : Rn} (h : a ∈ mids l r) : a ∈ l := List.mem_of_mem_take (List.mem_of_mem_drop h)
theorem missing_laws {l : List Rn} (hc : Canon l) {r : Rn} (hr : r.1 ≤ r.2) : Canon (missing l r) ∧ ∀ x, Has (missing l r) x ↔ (r.1 ≤ x ∧ x < r.2) ∧ ¬ Has l x := by
  obtain ⟨h1, h2⟩ := add_laws (l := []) trivial hr
  obtain ⟨h3, h4⟩ := each_cut (by' := mids l r) h1 (fun a ha => Nat.le_of_lt (hc.pos a (mids_mem ha)))
  refine ⟨h3, fun x => ?_⟩
  show Has (each cut (add [] r) (mids l r)) x ↔ _
  rw [h4, h2]
  simp only [has_nil, false_or]
  refine and_congr_right fun hx => not_congr ⟨fun ⟨a, ha, h5⟩ => ⟨a, mids_mem ha, h5⟩, fun ⟨a, ha, h5⟩ => ⟨a, ?_, h5⟩⟩
  obtain ⟨A, B, C, h⟩ := parts aheadB l r
  have hC := h.behind hc (fun a b h1 h2 => by simp only [aheadB, decide_eq_true_eq] at h1 ⊢; omega)
  have hA := h.ahead
  simp only [aheadB, decide_eq_true_eq] at hA hC
  have hlh := lo_le_hi aheadB l r
  have t1 : ∀ k j, (l.take k).drop j = ((A ++ B ++ C).take k).drop j := fun k j => by rw [← h.eq]
  have e1 : mids l r = B := by
    unfold mids
    rw [t1, List.take_left' (by rw [List.length_append, h.la, h.lb]; omega)]
    exact List.drop_left' h.la
  rw [e1]
  rw [h.eq] at ha
  rcases List.mem_append.1 ha with ha | ha
  · rcases List.mem_append.1 ha with ha | ha
    · have := hA a ha; omega
    · exact ha
  · have := hC a ha; omega
theorem fst_laws {l : List Rn} (hc : Canon l) (hn : l ≠ []) : (fst l).1 < (fst l).2 ∧ (∀ x, x < (fst l).1 → ¬ Has l x) ∧ (∀ x, (fst l).1 ≤ x → x < (fst l).2 → Has l x) ∧ ¬ Has l (fst l).2 := by
  cases l with
  | nil => exact absurd rfl hn
  | cons a l =>
    refine ⟨hc.1, fun x hx h => ?_, fun x h1 h2 => has_cons.2 (.inl ⟨h1, h2⟩), fun h => ?_⟩
    · have hx : x < a.1 := hx
      rcases has_cons.1 h with h | ⟨b, hb, h1, h2⟩
      · omega
      · have := hc.2.1 b hb; have := hc.1; omega
    · rcases has_cons.1 h with ⟨h1, h2⟩ | ⟨b, hb, h1, h2⟩
      · exact absurd h2 (Nat.lt_irrefl _)
      · have := hc.2.1 b hb
        have h1 : b.1 ≤ a.2 := h1
        omega
/-- Runs of places below a number are no more than that. -/
theorem canon_len : ∀ {l : List Rn}, Canon l → ∀ {k N : Nat}, (∀ r ∈ l, k ≤ r.1 ∧ r.2 ≤ N) → k ≤ N → k + l.length ≤ N
  | [], _, k, N, _, h => h
  | a :: l, hc, k, N, hb, h => by
    have h1 := hb a (List.mem_cons_self ..)
    have := hc.1
    have := canon_len hc.2.2 (k := a.2) (N := N) (fun r hr => ⟨Nat.le_of_lt (hc.2.1 r hr), (hb r (List.mem_cons_of_mem _ hr)).2⟩) h1.2
    rw [List.length_cons]
    omega
theorem canon_top {l : List Rn} (hc : Canon l) {N : Nat} (hb : ∀ x, Has l x → x < N) : (∀ r ∈ l, r.2 ≤ N) ∧ l.length ≤ N := by
  have h1 : ∀ r ∈ l, r.2 ≤ N := fun r hr => by have := hb _ (hc.has hr).2; have := hc.pos r hr; omega
  exact ⟨h1, by have := canon_len hc (k := 0) (N := N) (fun r hr => ⟨Nat.zero_le _, h1 r hr⟩) (Nat.zero_le _); omega⟩
end Go.Proofs.YtehadfidenejdaaGreatDoor.Sr

/-! A region that draws its order, reads and calls, whose slots may hold anything ahead of it. No program in sight. -/
namespace Go.Proofs.YtehadfidenejdaaGreatDoor
open Go Go.RowKit

section
variable {F : Fence} {n : Nat} {P : Program} {ops : Array Oper} {Q : Exit → Act → World → Prop} {md : Region.Mode}
end
end Go.Proofs.YtehadfidenejdaaGreatDoor
