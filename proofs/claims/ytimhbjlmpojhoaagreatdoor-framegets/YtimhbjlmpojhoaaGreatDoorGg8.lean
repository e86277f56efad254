/-
  Out of BkByG, BkFrV, BkFrA, BkFrM, BkFrF, BkFrG.
-/
import Derived.Test.YtimhbjlmpojhoaaGreatDoorGg7
import Derived.Test.YtimhbjlmpojhoaaGreatDoorGg6
import Derived.RangeFuncBox
import Derived.Deep.RegionHeld3
import Derived.Maps.AppendAt
import Derived.ArgAppend
import Derived.BigQuiet
import Derived.Deep.AppendLies
import Derived.Deep.RegionLaw
import Derived.BigRegion

/-! A Book of several kinds: its lists of bytes: what is put behind them, and the look. Written by mkbkb.py out of AeBook.lean. -/
namespace Go.Proofs.YtimhbjlmpojhoaaGreatDoor.Bb
open Go Go.RowKit
open Go.Proofs.YtimhbjlmpojhoaaGreatDoor.Bq (OwnB keep_grown keep_below own_keepP below_keepP Sep run_append_two wpList_append_two)

theorem Tryz.infoByteB : (Tryz.prog.info? 5).map (fun i => (i.zero, i.size, i.bytes)) = some (some (.int .u8 0), 1, 1) := by kernel_rfl

/-- A beginning of a row is owned as the row is. -/
theorem own_prefix {W : World} {S g c n k : Nat} {xs : List Value} (h : W.ownsRow S 5 1 (.slice (some ⟨g, 0, none⟩) (n + k) c) (n + k) xs) : W.ownsRow S 5 1 (.slice (some ⟨g, 0, none⟩) n c) n (xs.take n) := by
  refine ⟨by rw [List.length_take, h.1]; omega, ?_⟩
  rcases h.2 with ⟨h1, _⟩ | ⟨g', c', cur, hv, hb, hg, hn, hc, hs, ht⟩
  · cases h1
  · cases hv
    refine .inr ⟨g, c, cur, rfl, hb, hg, by omega, hc, hs, ?_⟩
    rw [← ht, List.take_take]
    congr 1
    omega

/-- Old memory but one list's row is as it was: so is the book. -/
theorem St.grown_at {S B h m cap : Nat} {nu : Nat → Nat} {E : Nat → Value} {N : Nat → Nat} {Lg : Nat → Value} {X : Nat → List Value} {w0 W W' : World} {row : Option Nat} (st : St S B h m cap nu E N Lg X w0 W) (hg : W.grownBy W' row) (k : Nat)
    (hS : ∀ k, row = some k → S ≤ k) (hB : row ≠ some B) (hh : row ≠ some h) (he : ∀ i, i < m → i ≠ k → (E i).ownBlock = none ∨ (E i).ownBlock ≠ row) (hk : k < m → W'.ownsRow S 5 1 (E k) (N k) (X k)) : St S B h m cap nu E N Lg X w0 W' where
  sS := Nat.le_trans st.sS hg.size
  bB := Nat.lt_of_lt_of_le st.bB hg.size
  bh := Nat.lt_of_lt_of_le st.bh hg.size
  book := hg.cell st.book (fun e => hB e.symm)
  l := fun i hi => hg.cell (st.l i hi) (fun e => hh e.symm)
  g := fun i hi => hg.cell (st.g i hi) (fun e => hh e.symm)
  n := fun i hi => hg.cell (st.n i hi) (fun e => hh e.symm)
  fz := fun j => (World.frozen?_of_block (w := W) (a := ⟨h, j, none⟩) (hg.block h st.bh (fun e => hh e.symm))).trans (st.fz j)
  rows := fun i hi => by
    by_cases hik : i = k
    · rw [hik] at hi ⊢; exact hk hi
    · exact (st.rows i hi).kept hg (he i hi hik)
  below := st.below.grown hg st.sS hS

/-- The longer list is kept. -/
theorem St.lay {S B h m cap : Nat} {nu : Nat → Nat} {E : Nat → Value} {N : Nat → Nat} {Lg : Nat → Value} {X : Nat → List Value} {w0 W : World} (st : St S B h m cap nu E N Lg X w0 W) (sep : Sep S B h m E) {k : Nat} (hk : k < m) (u : Value) :
    St S B h m cap nu E N (fun j => if j = k then u else Lg j) X w0 (W.setCell ⟨h, k * 3 + 1, none⟩ u) := by
  have hgr : W.grownBy (W.setCell ⟨h, k * 3 + 1, none⟩ u) (some h) := ⟨rfl, rfl, rfl, by simp, fun b _ hb => Below.heap_setCell _ _ _ b (fun e => hb (by rw [e]))⟩
  have hBh : some B ≠ some h := fun e => sep.Bh (by injection e)
  refine ⟨Nat.le_trans st.sS hgr.size, Nat.lt_of_lt_of_le st.bB hgr.size, Nat.lt_of_lt_of_le st.bh hgr.size, hgr.cell st.book hBh, fun j hj => ?_, fun j hj => ?_, fun j hj => ?_, fun j => ?_, fun j hj => (st.rows j hj).kept hgr (.inr (sep.eh j hj)), st.below.setCell (p := ⟨h, k * 3 + 1, none⟩) sep.Sh u⟩
  · rw [World.cell?_setCell_other _ _ _ _ (by intro e; injection e; omega)]
    exact st.l j hj
  · by_cases hjk : j = k
    · subst hjk
      rw [if_pos rfl]
      exact World.cell?_setCell_same _ _ _ (st.g j hj)
    · rw [if_neg hjk, World.cell?_setCell_other _ _ _ _ (by intro e; injection e; omega)]
      exact st.g j hj
  · rw [World.cell?_setCell_other _ _ _ _ (by intro e; injection e; omega)]
    exact st.n j hj
  · rw [World.frozen?_setCell]
    exact st.fz j

/-- Each of the first k lists has its longer one, apart from all else. -/
structure Gr (S B h m k : Nat) (nu : Nat → Nat) (E : Nat → Value) (N : Nat → Nat) (Lg : Nat → Value) (W : World) : Prop where
  rows : ∀ j, j < k → W.ownsRow S 5 1 (Lg j) (N j + 40) (List.replicate (N j + 40) (mark (nu j)))
  nB : ∀ j, j < k → (Lg j).ownBlock ≠ some B
  nh : ∀ j, j < k → (Lg j).ownBlock ≠ some h
  ne : ∀ j i, j < k → i < m → i ≠ j → (Lg j).ownBlock ≠ (E i).ownBlock

theorem Gr.grown {S B h m k : Nat} {nu : Nat → Nat} {E : Nat → Value} {N : Nat → Nat} {Lg : Nat → Value} {W W' : World} {row : Option Nat} (gr : Gr S B h m k nu E N Lg W) (hg : W.grownBy W' row) (hr : ∀ j, j < k → (Lg j).ownBlock ≠ row) : Gr S B h m k nu E N Lg W' :=
  ⟨fun j hj => (gr.rows j hj).kept hg (.inr (hr j hj)), gr.nB, gr.nh, gr.ne⟩

/-- What one more element behind a list leaves. -/
theorem grow_step {S B h m cap k q H : Nat} {nu : Nat → Nat} {E : Nat → Value} {N : Nat → Nat} {Lg : Nat → Value} {w0 W W' : World} {v : Value} {g c : Nat} (hk : k < m) (sep : Sep S B h m E) (st : St S B h m cap nu E N Lg (fun i => List.replicate (N i) (mark (nu i))) w0 W) (gr : Gr S B h m k nu E N Lg W)
    (hv : (v = E k ∧ q = 0) ∨ (∃ g1 c1, v = .slice (some ⟨g1, 0, none⟩) (N k + q) c1 ∧ ((∃ n1, E k = .slice (some ⟨g1, 0, none⟩) n1 c1) ∨ H ≤ g1)))
    (hH : H ≤ W.heap.size) (hHB : B < H) (hHh : h < H) (hHE : ∀ i, i < m → ∀ b, (E i).ownBlock = some b → b < H) (hHL : ∀ j, j < k → ∀ b, (Lg j).ownBlock = some b → b < H)
    (hown' : W'.ownsRow S 5 1 (.slice (some ⟨g, 0, none⟩) (N k + q + 1) c) (N k + q + 1) (List.replicate (N k + q) (mark (nu k)) ++ [mark (nu k)]))
    (hat : (v = .slice (some ⟨g, 0, none⟩) (N k + q) c ∧ W.grownBy W' (some g)) ∨ (g = W.heap.size ∧ W.grownBy W' none)) :
    St S B h m cap nu E N Lg (fun i => List.replicate (N i) (mark (nu i))) w0 W' ∧ Gr S B h m k nu E N Lg W' ∧
      ((∃ n1, E k = .slice (some ⟨g, 0, none⟩) n1 c) ∨ H ≤ g) ∧
      W'.ownsRow S 5 1 (.slice (some ⟨g, 0, none⟩) (N k + (q + 1)) c) (N k + (q + 1)) (List.replicate (N k + (q + 1)) (mark (nu k))) ∧ H ≤ W'.heap.size ∧ (∀ a : Addr, a.block < H → (∀ n1, E k ≠ .slice (some ⟨a.block, 0, none⟩) n1 c) → W'.cell? a = W.cell? a) := by
  have ho : W'.ownsRow S 5 1 (.slice (some ⟨g, 0, none⟩) (N k + (q + 1)) c) (N k + (q + 1)) (List.replicate (N k + (q + 1)) (mark (nu k))) := by
    have e : List.replicate (N k + (q + 1)) (mark (nu k)) = List.replicate (N k + q) (mark (nu k)) ++ [mark (nu k)] := by
      rw [show N k + (q + 1) = (N k + q) + 1 by omega, List.replicate_succ']
    rw [e]
    exact hown'
  have hSg : S ≤ g := (ho.lt g rfl).1
  rcases hat with ⟨hvg, hgr⟩ | ⟨hgn, hgr⟩
  · have hplace : (∃ n1, E k = .slice (some ⟨g, 0, none⟩) n1 c) ∨ H ≤ g := by
      rcases hv with ⟨h1, h2⟩ | ⟨g1, c1, h1, h2⟩
      · left
        exact ⟨_, h1.symm.trans hvg⟩
      · rw [hvg] at h1
        injection h1 with e1 e2 e3
        injection e1 with e1
        injection e1 with e1
        subst e1 e3
        exact h2
    have hob : ∀ b, b < H → (∀ n1, E k ≠ .slice (some ⟨b, 0, none⟩) n1 c) → b ≠ g := by
      intro b hb hne e
      subst e
      rcases hplace with ⟨n1, h1⟩ | h1
      · exact hne n1 h1
      · omega
    have hgB : some g ≠ some B := by
      intro e; injection e with e
      refine hob B hHB (fun n1 hE => sep.eB k hk (by rw [hE]; rfl)) e.symm
    have hgh : some g ≠ some h := by
      intro e; injection e with e
      refine hob h hHh (fun n1 hE => sep.eh k hk (by rw [hE]; rfl)) e.symm
    refine ⟨st.grown_at hgr k (fun b e => by injection e with e; omega) hgB hgh (fun i hi hik => ?_) (fun _ => ?_), gr.grown hgr (fun j hj e => ?_), hplace, ho, Nat.le_trans hH hgr.size, fun a ha hne => ?_⟩
    · cases hEi : (E i).ownBlock with
      | none => exact .inl rfl
      | some b =>
        right
        intro e
        injection e with e
        subst e
        refine hob b (hHE i hi b hEi) (fun n1 hE => ?_) rfl
        rcases sep.ee i k hi hk hik with h1 | h1
        · rw [hEi] at h1; cases h1
        · exact h1 (by rw [hEi, hE]; rfl)
    · rcases hplace with ⟨n1, h1⟩ | h1
      · have hn1 : n1 = N k := by
          rcases bookOwn_shape (st.rows k hk) with ⟨h2, _⟩ | ⟨g2, c2, h2, _⟩
          · rw [h1] at h2; cases h2
          · rw [h1] at h2; injection h2
        rw [h1, hn1]
        have := own_prefix ho
        rw [List.take_replicate, Nat.min_eq_left (by omega)] at this
        exact this
      · refine (st.rows k hk).kept hgr ?_
        cases hEk : (E k).ownBlock with
        | none => exact .inl rfl
        | some b => right; intro e; injection e with e; have := hHE k hk b hEk; omega
    · cases hLj : (Lg j).ownBlock with
      | none => rw [hLj] at e; cases e
      | some b =>
        rw [hLj] at e; injection e with e; subst e
        refine hob b (hHL j hj b hLj) (fun n1 hE => ?_) rfl
        exact gr.ne j k hj hk (by omega) (by rw [hLj, hE]; rfl)
    · exact World.cell?_of_block (hgr.block a.block (by omega) (by intro e; injection e with e; exact hob a.block ha hne e))
  · refine ⟨st.grown hgr (fun b e => by cases e) (by simp) (by simp) (fun i _ => ?_), gr.grown hgr (fun j hj e => ?_), .inr (by omega), ho, Nat.le_trans hH hgr.size, fun a ha _ => ?_⟩
    · cases hEi : (E i).ownBlock with
      | none => exact .inl rfl
      | some b => right; simp
    · rcases (gr.rows j hj).2 with ⟨_, h0⟩ | ⟨g2, c2, _, h2, _⟩
      · omega
      · rw [h2] at e; cases e
    · exact World.cell?_of_block (hgr.block a.block (by omega) (by simp))

set_option maxRecDepth 20000 in
set_option maxHeartbeats 4000000 in
theorem bk_grow_any (S B h m cap : Nat) (nu : Nat → Nat) (E : Nat → Value) (N : Nat → Nat) (Lg : Nat → Value) (w0 wF : World) (hnu : ∀ i, i < m → nu i ≤ 5000000) (hm2 : m ≤ 3000000) (hN : ∀ i, i < m → N i ≤ 5000000) (hLg : ∀ i, i < m → Lg i = .slice none 0 0) (sep : Sep S B h m E) (st : St S B h m cap nu E N Lg (fun i => List.replicate (N i) (mark (nu i))) w0 wF) :
    Calls Tryz.prog 45 #[.pointer (some ⟨B, 0, none⟩)] wF fun e w' => e = .returned (.tuple #[]) ∧ ∃ Lg', St S B h m cap nu E N Lg' (fun i => List.replicate (N i) (mark (nu i))) w0 w' ∧ Gr S B h m m nu E N Lg' w' ∧ KeepP (fun b => Bq.OwnB m E b ∨ b = h) wF w' ∧ ∀ j, j < m → ∀ b, (Lg' j).ownBlock = some b → Bq.OwnB m E b ∨ wF.heap.size ≤ b := by
  obtain ⟨i0, hi, hz0, hz1, hz2⟩ := info_parts Tryz.infoByteB
  have hc := st.book
  have HST := veil st
  clear st
  go_enter Tryz.func45, Tryz.ntmps45
  go_wp2
  go_loopw [2] (fun i wr => ∃ (k : Nat) (L : Nat → Value), k ≤ m ∧ i = .int .i64 k ∧ St S B h m cap nu E N L (fun i => List.replicate (N i) (mark (nu i))) w0 wr ∧ Gr S B h m k nu E N L wr ∧ (∀ j, k ≤ j → j < m → L j = .slice none 0 0) ∧ KeepP (fun b => Bq.OwnB m E b ∨ b = h) wF wr ∧ ∀ j, j < k → ∀ b, (L j).ownBlock = some b → Bq.OwnB m E b ∨ wF.heap.size ≤ b) (fun i _ => m - (intOf i).toNat)
  case atStart => exact ⟨0, Lg, Nat.zero_le _, rfl, HST.out, ⟨fun j hj => absurd hj (Nat.not_lt_zero _), fun j hj => absurd hj (Nat.not_lt_zero _), fun j hj => absurd hj (Nat.not_lt_zero _), fun j i hj => absurd hj (Nat.not_lt_zero _)⟩, fun j _ hj => hLg j hj, KeepP.refl _ _, fun j hj => absurd hj (Nat.not_lt_zero _)⟩
  case round =>
    obtain ⟨k, L, hk, rfl, st, gr, hnil, hkp, hlb⟩ := hrel
    have HKP := veil hkp
    have HLB := veil hlb
    clear hkp hlb
    have hcb := st.book
    by_cases hlt : k < m
    · have c0 := st.l k hlt
      have c1 := st.g k hlt
      have c2 := st.n k hlt
      have hNk := hN k hlt
      have hnk := hnu k hlt
      have HSR : Hid (St S B h m cap nu E N L (fun i => List.replicate (N i) (mark (nu i))) w0 wr) := st
      have HGR : Hid (Gr S B h m k nu E N L wr) := gr
      have HNL : Hid (∀ j, k ≤ j → j < m → L j = .slice none 0 0) := hnil
      rw [hnil k (Nat.le_refl _) hlt] at c1
      have hbh := st.bh
      obtain ⟨ao, c, hE⟩ : ∃ ao c, E k = .slice ao (N k) c := by
        rcases bookOwn_shape (st.rows k hlt) with ⟨h1, h2⟩ | ⟨g, c, h1, _⟩
        · exact ⟨none, 0, by rw [h1, h2]⟩
        · exact ⟨some ⟨g, 0, none⟩, c, h1⟩
      have HE : Hid (E k = .slice ao (N k) c) := hE
      rw [hE] at c0
      clear st gr hnil hE
      go_wp2_with fail
      obtain ⟨wo, rfl⟩ : ∃ wo : World, wo = wr := ⟨_, rfl⟩
      have HA := HSR.out.alloc (.cells #[.slice ao (N k) c, .slice none 0 0, .int .i64 (nu k : Int)] 95)
      have HG := HGR.out.grown (World.grownBy_alloc wo (.cells #[.slice ao (N k) c, .slice none 0 0, .int .i64 (nu k : Int)] 95) none) (fun j hj e => by
        rcases (HGR.out.rows j hj).2 with ⟨_, h0⟩ | ⟨g2, c2, _, h2, _⟩
        · omega
        · rw [h2] at e; cases e)
      have HSz : Hid (wo.heap.size + 1 = (wo.alloc (.cells #[.slice ao (N k) c, .slice none 0 0, .int .i64 (nu k : Int)] 95)).heap.size) := by show _ = _; simp
      go_loopw [4, 5] (fun t i wq => ∃ (q : Nat) (ao3 : Option Addr) (c3 : Nat), q ≤ 40 ∧ i = .int .i64 q ∧ t = .slice ao3 (N k + q) c3 ∧ St S B h m cap nu E N L (fun i => List.replicate (N i) (mark (nu i))) w0 wq ∧ Gr S B h m k nu E N L wq ∧
          ((.slice ao3 (N k + q) c3 = E k ∧ q = 0) ∨ (∃ g1 c1, Value.slice ao3 (N k + q) c3 = .slice (some ⟨g1, 0, none⟩) (N k + q) c1 ∧ ((∃ n1, E k = .slice (some ⟨g1, 0, none⟩) n1 c1) ∨ wo.heap.size + 1 ≤ g1))) ∧
          wq.ownsRow S 5 1 (.slice ao3 (N k + q) c3) (N k + q) (List.replicate (N k + q) (mark (nu k))) ∧ wo.heap.size + 1 ≤ wq.heap.size ∧ wq.cell? ⟨wo.heap.size, 2, none⟩ = some (.int .i64 (nu k : Int)) ∧ KeepP (fun b => Bq.OwnB m E b ∨ b = h) wF wq) (fun _ i _ => 40 - (intOf i).toNat)
      case atStart =>
        refine ⟨0, ao, c, Nat.zero_le _, rfl, rfl, HA, HG, .inl ⟨HE.out.symm, rfl⟩, ?_, Nat.le_of_eq HSz.out, by simp, keep_grown HKP.out (World.grownBy_alloc _ _ none) (fun b e => by cases e)⟩
        have := HA.rows k hlt
        rw [HE.out] at this
        exact this
      case round =>
        obtain ⟨q, ao3, c3, hq, rfl, rfl, st2, gr2, hsh, hown, hsz, hp2, hkp2⟩ := hrel
        have HKP2 := veil hkp2
        clear hkp2
        have HS2 : Hid (St S B h m cap nu E N L (fun i => List.replicate (N i) (mark (nu i))) w0 wr) := st2
        have HG2 : Hid (Gr S B h m k nu E N L wr) := gr2
        have HSH : Hid ((.slice ao3 (N k + q) c3 = E k ∧ q = 0) ∨ (∃ g1 c1, Value.slice ao3 (N k + q) c3 = .slice (some ⟨g1, 0, none⟩) (N k + q) c1 ∧ ((∃ n1, E k = .slice (some ⟨g1, 0, none⟩) n1 c1) ∨ wo.heap.size + 1 ≤ g1))) := hsh
        have HOW : Hid (wr.ownsRow S 5 1 (.slice ao3 (N k + q) c3) (N k + q) (List.replicate (N k + q) (mark (nu k)))) := hown
        have hSz2 := st2.sS
        have hbB2 := st2.bB
        clear st2 gr2 hsh hown HA HG HSz
        by_cases hq40 : q < 40
        · go_wp2_with fail
          refine (mark_any _ _ (by omega) (by omega)).mono ?_
          rintro e9 w9 ⟨rfl, rfl⟩
          go_wp2_with (at_builtin; refine wpList_append_two _ rfl _ _ 26 rfl S 5 i0 (.int .u8 0) 1 1 Tryz.underlying26 hi hz0 hz1 hz2 rfl (by decide) _ _ _ rfl (HOW.out.alloc _) ⟨w9.heap.size, 0, none⟩ 1 1 [mark (nu k)] rfl rfl (cell_one_new _ _ _) (by simp [mark, Value.oneCell']) (by decide) (by unfold maxLen; omega) (by omega) (by simp; omega) ?_; intro g1 c1 w1 hown1 hat1)
          have hne1 : ∀ n1, E k ≠ .slice (some ⟨wo.heap.size, 0, none⟩) n1 c1 := fun n1 hE1 => by
            have := (HSR.out.rows k hlt).lt wo.heap.size (by rw [hE1]; rfl)
            omega
          obtain ⟨st3, gr3, hpl, how3, hsz3, hcell3⟩ := grow_step (H := wo.heap.size + 1) hlt sep (HS2.out.alloc (.cells #[mark (nu k)] 5)) (HG2.out.grown (World.grownBy_alloc w9 (.cells #[mark (nu k)] 5) none) (fun j hj e => by
            rcases (HG2.out.rows j hj).2 with ⟨_, h0⟩ | ⟨g2, c2, _, h2, _⟩
            · omega
            · rw [h2] at e; cases e)) HSH.out (by simp; omega) (by have := HSR.out.bB; omega) (by omega) (fun i hi b hb => by have := (HSR.out.rows i hi).lt b hb; omega) (fun j hj b hb => by have := (HGR.out.rows j hj).lt b hb; omega) hown1 hat1
          have hp3 : w1.cell? ⟨wo.heap.size, 2, none⟩ = some (.int .i64 (nu k : Int)) := by
            rw [hcell3 ⟨wo.heap.size, 2, none⟩ (Nat.lt_succ_self _) hne1]
            exact (World.cell?_alloc_old _ _ _ (by show wo.heap.size ≠ _; omega)).trans hp2
          have HKP4 := veil (show KeepP (fun b => Bq.OwnB m E b ∨ b = h) wF w1 by
            have ka := keep_grown HKP2.out (World.grownBy_alloc w9 (.cells #[mark (nu k)] 5) none) (fun b e => by cases e)
            rcases hat1 with ⟨_, hg⟩ | ⟨_, hg⟩
            · refine keep_grown ka hg (fun b e => ?_)
              injection e with e
              subst e
              rcases hpl with ⟨n1, h1⟩ | h1
              · exact .inl (.inl ⟨k, hlt, by rw [h1]; rfl⟩)
              · exact .inr (by have := HKP.out.size; omega)
            · exact keep_grown ka hg (fun b e => by cases e))
          clear hown1 hat1 hne1 hcell3
          have HS3 : Hid (St S B h m cap nu E N L (fun i => List.replicate (N i) (mark (nu i))) w0 w1) := st3
          have HG3 : Hid (Gr S B h m k nu E N L w1) := gr3
          have HO3 : Hid (w1.ownsRow S 5 1 (.slice (some ⟨g1, 0, none⟩) (N k + (q + 1)) c1) (N k + (q + 1)) (List.replicate (N k + (q + 1)) (mark (nu k)))) := how3
          have HPL : Hid ((∃ n1, E k = .slice (some ⟨g1, 0, none⟩) n1 c1) ∨ wo.heap.size + 1 ≤ g1) := hpl
          clear st3 gr3 how3 hpl
          go_wp2_with fail
          go_roundw
          case rel => exact ⟨q + 1, _, c1, by omega, by go_num, rfl, HS3.out, HG3.out, .inr ⟨g1, c1, rfl, HPL.out⟩, HO3.out, hsz3, hp3, HKP4.out⟩
          case measure => simp [intOf]; omega
        · have hqe : q = 40 := by omega
          subst hqe
          have hcb2 := HS2.out.book
          have hg2 : wr.cell? ⟨h, k * 3 + 1, none⟩ = some (.slice none 0 0) := by rw [HS2.out.g k hlt, HNL.out k (Nat.le_refl _) hlt]
          have hfz2 := HS2.out.fz (k * 3 + 1)
          go_wp2_with fail
          go_roundw
          case rel =>
            refine ⟨k + 1, _, by omega, by go_num, HS2.out.lay sep hlt _, ?_, fun j hj hjm => ?_, keep_grown (row := some h) HKP2.out ⟨rfl, rfl, rfl, by simp, fun b _ hb => Below.heap_setCell _ _ _ b (fun e => hb (by rw [e]))⟩ (fun b e => by injection e with e; subst e; exact .inl (.inr rfl)), fun j hj b e => ?_⟩
            · have hgr : wr.grownBy (wr.setCell ⟨h, k * 3 + 1, none⟩ (.slice ao3 (N k + 40) c3)) (some h) := ⟨rfl, rfl, rfl, by simp, fun b _ hb => Below.heap_setCell _ _ _ b (fun e => hb (by rw [e]))⟩
              have hlg : ∀ j, j < k + 1 → j ≠ k → j < k := fun j h1 h2 => by omega
              obtain ⟨gg, cc, hgg⟩ : ∃ gg cc, Value.slice ao3 (N k + 40) c3 = .slice (some ⟨gg, 0, none⟩) (N k + 40) cc := by
                rcases bookOwn_shape HOW.out with ⟨_, h0⟩ | ⟨gg, cc, h1, _⟩
                · omega
                · exact ⟨gg, cc, h1⟩
              have hplace : (∃ n1, E k = .slice (some ⟨gg, 0, none⟩) n1 cc) ∨ wo.heap.size + 1 ≤ gg := by
                rcases HSH.out with ⟨_, h0⟩ | ⟨g1, c1, h1, h2⟩
                · omega
                · rw [hgg] at h1
                  injection h1 with e1 e2 e3
                  injection e1 with e1
                  injection e1 with e1
                  subst e1 e3
                  exact h2
              have hob : ∀ b, b < wo.heap.size + 1 → (∀ n1, E k ≠ .slice (some ⟨b, 0, none⟩) n1 cc) → (Value.slice ao3 (N k + 40) c3).ownBlock ≠ some b := by
                intro b hb hne e
                rw [hgg] at e
                injection e with e
                subst e
                rcases hplace with ⟨n1, h1⟩ | h1
                · exact hne n1 h1
                · have h2 : gg < wo.heap.size + 1 := hb
                  omega
              have hkB := hob B (by have := HSR.out.bB; omega) (fun n1 hE => sep.eB k hlt (by rw [hE]; rfl))
              have hkh := hob h (by omega) (fun n1 hE => sep.eh k hlt (by rw [hE]; rfl))
              refine ⟨fun j hj => ?_, fun j hj => ?_, fun j hj => ?_, fun j i hj hi hij => ?_⟩
              · by_cases hjk : j = k
                · subst hjk; rw [if_pos rfl]; exact HOW.out.kept hgr (.inr hkh)
                · rw [if_neg hjk]; exact (HG2.out.rows j (hlg j hj hjk)).kept hgr (.inr (HG2.out.nh j (hlg j hj hjk)))
              · by_cases hjk : j = k
                · subst hjk; rw [if_pos rfl]; exact hkB
                · rw [if_neg hjk]; exact HG2.out.nB j (hlg j hj hjk)
              · by_cases hjk : j = k
                · subst hjk; rw [if_pos rfl]; exact hkh
                · rw [if_neg hjk]; exact HG2.out.nh j (hlg j hj hjk)
              · by_cases hjk : j = k
                · subst hjk
                  rw [if_pos rfl]
                  intro e
                  cases hEi : (E i).ownBlock with
                  | none => rw [hEi, hgg] at e; cases e
                  | some b =>
                    rw [hEi] at e
                    refine hob b (by have := (HSR.out.rows i hi).lt b hEi; omega) (fun n1 hE => ?_) e
                    rcases sep.ee i j hi hlt hij with h1 | h1
                    · rw [hEi] at h1; cases h1
                    · exact h1 (by rw [hEi, hE]; rfl)
                · rw [if_neg hjk]; exact HG2.out.ne j i (hlg j hj hjk) hi hij
            · rw [if_neg (by omega)]; exact HNL.out j (by omega) hjm
            · by_cases hjk : j = k
              · rw [if_pos hjk] at e
                rcases HSH.out with ⟨_, h0⟩ | ⟨g1, c1, h1, h2⟩
                · omega
                · rw [h1] at e
                  injection e with e
                  subst e
                  rcases h2 with ⟨n1, h2⟩ | h2
                  · exact .inl ⟨k, hlt, by rw [h2]; rfl⟩
                  · exact .inr (by have := HKP.out.size; have h3 : wo.heap.size + 1 ≤ g1 := h2; show wF.heap.size ≤ g1; omega)
              · rw [if_neg hjk] at e
                exact HLB.out j (by omega) b e
          case measure => simp [intOf]; omega
    · have hkm : k = m := by omega
      subst hkm
      have HSR : Hid (St S B h k cap nu E N L (fun i => List.replicate (N i) (mark (nu i))) w0 wr) := st
      have HGR : Hid (Gr S B h k k nu E N L wr) := gr
      clear st gr hnil
      go_wp2_with fail
      go_end0
      exact ⟨rfl, L, HSR.out, HGR.out, HKP.out, HLB.out⟩
set_option maxHeartbeats 400000 in
theorem is_any (n : Int) (w : World) (h0 : 0 ≤ n) (h1 : n ≤ 5000000) :
    Calls Tryz.prog 102 #[.int .u8 (1 + n % 250), .int .i64 n] w fun e w' => e = .returned (.bool true) ∧ w' = w := by
  go_enter Tryz.func102, Tryz.ntmps102
  go_wp2
  go_ret
  exact ⟨by simp, rfl⟩

theorem cell_rep {W : World} {S g c n q : Nat} {u : Value} (h : W.ownsRow S 5 1 (.slice (some ⟨g, 0, none⟩) n c) n (List.replicate n u)) (hq : q < n) : W.cell? ⟨g, q, none⟩ = some u := by
  rw [h.cellAt q (by simpa using hq), List.getElem?_replicate, if_pos hq]

theorem World.grownBy.drewN {a b : World} {row : Option Nat} (h : a.grownBy b row) (n : Nat) : a.grownBy (b.drewN n) row := ⟨h.os, h.tape, h.output, h.size, h.block⟩

set_option maxRecDepth 20000 in
set_option maxHeartbeats 4000000 in
theorem look_any (S B h m cap : Nat) (nu : Nat → Nat) (E : Nat → Value) (N : Nat → Nat) (Lg : Nat → Value) (w0 W : World) (hnu : ∀ i, i < m → nu i ≤ 5000000) (hm2 : m ≤ 3000000) (hN : ∀ i, i < m → N i ≤ 5000000) (st : St S B h m cap nu E N Lg (fun i => List.replicate (N i) (mark (nu i))) w0 W) (gr : Gr S B h m m nu E N Lg W) :
    Calls Tryz.prog 57 #[.pointer (some ⟨B, 0, none⟩)] W fun e w' => e = .returned (.bool true) ∧ W.grownBy w' none := by
  have HST : Hid (St S B h m cap nu E N Lg (fun i => List.replicate (N i) (mark (nu i))) w0 W) := st
  have HGR : Hid (Gr S B h m m nu E N Lg W) := gr
  have hc := st.book
  have hbB := st.bB
  have hbh := st.bh
  clear st gr
  go_enter Tryz.func57, Tryz.ntmps57
  go_wp2_with fail
  go_loopw [3] (fun i wr => ∃ k : Nat, k ≤ m ∧ i = .int .i64 k ∧ W.grownBy wr none) (fun i _ => m - (intOf i).toNat)
  case atStart => exact ⟨0, Nat.zero_le _, rfl, rfl, rfl, rfl, Nat.le_refl _, fun _ _ _ => rfl⟩
  case round =>
    obtain ⟨k, hk, rfl, hg⟩ := hrel
    have hcb : wr.cell? ⟨B, 1, none⟩ = some (.slice (some ⟨h, 0, none⟩) m cap) := hg.cell hc (by simp)
    have hsz := hg.size
    by_cases hlt : k < m
    · obtain ⟨ao, c, hE⟩ : ∃ ao c, E k = .slice ao (N k) c := by
        rcases bookOwn_shape (HST.out.rows k hlt) with ⟨h1, h2⟩ | ⟨g, c, h1, _⟩
        · exact ⟨none, 0, by rw [h1, h2]⟩
        · exact ⟨some ⟨g, 0, none⟩, c, h1⟩
      obtain ⟨gg, cc, hL⟩ : ∃ gg cc, Lg k = .slice (some ⟨gg, 0, none⟩) (N k + 40) cc := by
        rcases bookOwn_shape (HGR.out.rows k hlt) with ⟨_, h0⟩ | ⟨gg, cc, h1, _⟩
        · omega
        · exact ⟨gg, cc, h1⟩
      have HE : Hid (E k = .slice ao (N k) c) := hE
      have HL : Hid (Lg k = .slice (some ⟨gg, 0, none⟩) (N k + 40) cc) := hL
      have c0 : wr.cell? ⟨h, k * 3, none⟩ = some (.slice ao (N k) c) := (hg.cell (HST.out.l k hlt) (by simp)).trans (by rw [hE])
      have c1 : wr.cell? ⟨h, k * 3 + 1, none⟩ = some (.slice (some ⟨gg, 0, none⟩) (N k + 40) cc) := (hg.cell (HST.out.g k hlt) (by simp)).trans (by rw [hL])
      have c2 : wr.cell? ⟨h, k * 3 + 2, none⟩ = some (.int .i64 (nu k : Int)) := hg.cell (HST.out.n k hlt) (by simp)
      have hNk := hN k hlt
      have hnk := hnu k hlt
      have HG : Hid (W.grownBy wr none) := hg
      have hne : decide (((N k + 40 : Nat) : Int) = ((N k : Nat) : Int) + 40) = true := by simp
      clear hg hE hL
      go_wp2_with fail
      obtain ⟨wo, rfl⟩ : ∃ wo : World, wo = wr := ⟨_, rfl⟩
      have HA : Hid (W.grownBy (wo.alloc (.cells #[.slice ao (N k) c, .slice (some ⟨gg, 0, none⟩) (N k + 40) cc, .int .i64 (nu k : Int)] 95)) none) := HG.out.trans (World.grownBy_alloc _ _ _)
      go_loopw [5] (fun i wq => ∃ q : Nat, q ≤ N k + 40 ∧ i = .int .i64 q ∧ W.grownBy wq none ∧ wq.cell? ⟨wo.heap.size, 0, none⟩ = some (.slice ao (N k) c) ∧ wq.cell? ⟨wo.heap.size, 1, none⟩ = some (.slice (some ⟨gg, 0, none⟩) (N k + 40) cc) ∧ wq.cell? ⟨wo.heap.size, 2, none⟩ = some (.int .i64 (nu k : Int))) (fun i _ => N k + 40 - (intOf i).toNat)
      case atStart => exact ⟨0, Nat.zero_le _, rfl, HA.out, by simp, by simp, by simp⟩
      case round =>
        obtain ⟨q, hq, rfl, hg2, p0, p1, p2⟩ := hrel
        have HG2 : Hid (W.grownBy wr none) := hg2
        clear HA
        by_cases hq2 : q < N k + 40
        · have hrow : wr.ownsRow S 5 1 (.slice (some ⟨gg, 0, none⟩) (N k + 40) cc) (N k + 40) (List.replicate (N k + 40) (mark (nu k))) := by
            have := HGR.out.rows k hlt
            rw [HL.out] at this
            exact this.kept hg2 (.inr (by simp [Value.ownBlock]))
          have hcg : wr.cell? ⟨gg, q, none⟩ = some (.int .u8 (1 + (nu k : Int) % 250)) := cell_rep hrow hq2
          have i1 : (0 : Int) ≤ (q : Int) := by omega
          have i2 : (q : Int) < ((N k + 40 : Nat) : Int) := by omega
          by_cases hq3 : q < N k
          · obtain ⟨g, hao⟩ : ∃ g, ao = some ⟨g, 0, none⟩ := by
              rcases bookOwn_shape (HST.out.rows k hlt) with ⟨h1, h2⟩ | ⟨g, c4, h1, _⟩
              · omega
              · rw [HE.out] at h1; injection h1 with e1 e2 e3; exact ⟨g, e1⟩
            subst hao
            have hrow2 : wr.ownsRow S 5 1 (.slice (some ⟨g, 0, none⟩) (N k) c) (N k) (List.replicate (N k) (mark (nu k))) := by
              have := HST.out.rows k hlt
              rw [HE.out] at this
              exact this.kept hg2 (.inr (by simp [Value.ownBlock]))
            have hcl : wr.cell? ⟨g, q, none⟩ = some (.int .u8 (1 + (nu k : Int) % 250)) := cell_rep hrow2 hq3
            have i3 : (q : Int) < ((N k : Nat) : Int) := by omega
            clear hrow hrow2 hg2
            go_wp2_with fail
            go_quiet (first | (go_at_call 102; exact Calls.quiet_of_same (is_any _ _ (by omega) (by omega))))
            go_wp2_with fail
            go_roundw
            case rel => exact ⟨q + 1, by omega, by go_num, World.grownBy.drewN HG2.out _, p0, p1, p2⟩
            case measure => simp [intOf]; omega
          · have i3 : decide ((q : Int) < ((N k : Nat) : Int)) = false := by simp; omega
            clear hrow hg2
            go_wp2_with fail
            go_quiet (first | (go_at_call 102; exact Calls.quiet_of_same (is_any _ _ (by omega) (by omega))))
            go_wp2_with fail
            go_roundw
            case rel => exact ⟨q + 1, by omega, by go_num, World.grownBy.drewN HG2.out _, p0, p1, p2⟩
            case measure => simp [intOf]; omega
        · clear hg2
          go_wp2_with fail
          go_roundw
          case rel => exact ⟨k + 1, by omega, by go_num, HG2.out⟩
          case measure => simp [intOf]; omega
    · have HG : Hid (W.grownBy wr none) := hg
      clear hg
      go_wp2_with fail
      go_ret
      exact ⟨rfl, HG.out⟩
theorem St.keep {S B h m cap : Nat} {nu : Nat → Nat} {E : Nat → Value} {N : Nat → Nat} {Lg : Nat → Value} {X : Nat → List Value} {w0 W W' : World} {st : Nat → Prop} (s : St S B h m cap nu E N Lg X w0 W) (k : KeepP st W W') (hS : ∀ b, st b → S ≤ b) (hB : ¬ st B) (hh : ¬ st h) (he : ∀ i, i < m → ∀ b, (E i).ownBlock = some b → ¬ st b) : St S B h m cap nu E N Lg X w0 W' where
  sS := Nat.le_trans s.sS k.size
  bB := Nat.lt_of_lt_of_le s.bB k.size
  bh := Nat.lt_of_lt_of_le s.bh k.size
  book := (World.cell?_of_block (w := W) (a := ⟨B, 1, none⟩) (k.block B s.bB hB)).trans s.book
  l := fun i hi => (World.cell?_of_block (w := W) (a := ⟨h, i * 3, none⟩) (k.block h s.bh hh)).trans (s.l i hi)
  g := fun i hi => (World.cell?_of_block (w := W) (a := ⟨h, i * 3 + 1, none⟩) (k.block h s.bh hh)).trans (s.g i hi)
  n := fun i hi => (World.cell?_of_block (w := W) (a := ⟨h, i * 3 + 2, none⟩) (k.block h s.bh hh)).trans (s.n i hi)
  fz := fun j => (World.frozen?_of_block (w := W) (a := ⟨h, j, none⟩) (k.block h s.bh hh)).trans (s.fz j)
  rows := fun i hi => own_keepP (s.rows i hi) k (he i hi)
  below := below_keepP s.below k s.sS hS
theorem Gr.keep {S B h m k : Nat} {nu : Nat → Nat} {E : Nat → Value} {N : Nat → Nat} {Lg : Nat → Value} {W W' : World} {st : Nat → Prop} (gr : Gr S B h m k nu E N Lg W) (kp : KeepP st W W') (hst : ∀ j, j < k → ∀ b, (Lg j).ownBlock = some b → ¬ st b) : Gr S B h m k nu E N Lg W' :=
  ⟨fun j hj => own_keepP (gr.rows j hj) kp (hst j hj), gr.nB, gr.nh, gr.ne⟩
end Go.Proofs.YtimhbjlmpojhoaaGreatDoor.Bb

/-! Elements of 8 cells in a row of the call's own. Written by mkbkf.py. -/
namespace Go.Proofs.YtimhbjlmpojhoaaGreatDoor.Bf
open Go Go.RowKit

def vo (l : List (Nat → Value)) : List Value := l.flatMap fun r => [r 0, r 1, r 2, r 3, r 4, r 5, r 6, r 7]
def oC (r : Nat → Value) : Array Value := #[r 0, r 1, r 2, r 3, r 4, r 5, r 6, r 7]
def gO (l : List (Nat → Value)) (j : Nat) : Nat → Value := l[j]?.getD (fun _ => undef)
theorem vo_length : ∀ (l : List (Nat → Value)), (vo l).length = 8 * l.length
  | [] => rfl
  | r :: l => by
    have h := vo_length l
    show ([r 0, r 1, r 2, r 3, r 4, r 5, r 6, r 7] ++ vo l).length = _
    rw [List.length_append, h, List.length_cons]
    simp only [List.length_cons, List.length_nil]
    omega
theorem vo_append (a b : List (Nat → Value)) : vo (a ++ b) = vo a ++ vo b := by unfold vo; rw [List.flatMap_append]
theorem vo_at : ∀ (l : List (Nat → Value)) (j : Nat), j < l.length → (vo l)[j * 8 + 0]? = some (gO l j 0) ∧ (vo l)[j * 8 + 1]? = some (gO l j 1) ∧ (vo l)[j * 8 + 2]? = some (gO l j 2) ∧ (vo l)[j * 8 + 3]? = some (gO l j 3) ∧ (vo l)[j * 8 + 4]? = some (gO l j 4) ∧ (vo l)[j * 8 + 5]? = some (gO l j 5) ∧ (vo l)[j * 8 + 6]? = some (gO l j 6) ∧ (vo l)[j * 8 + 7]? = some (gO l j 7)
  | [], _, h => absurd h (Nat.not_lt_zero _)
  | r :: l, 0, _ => ⟨rfl, rfl, rfl, rfl, rfl, rfl, rfl, rfl⟩
  | r :: l, j + 1, h => by
    have h2 := vo_at l j (by simpa using h)
    have e : gO (r :: l) (j + 1) = gO l j := by simp [gO]
    have s : ∀ q, (vo (r :: l))[(j + 1) * 8 + q]? = (vo l)[j * 8 + q]? := fun q => by
      rw [show (j + 1) * 8 + q = (j * 8 + q) + 8 by omega]
      rfl
    rw [e, s 0, s 1, s 2, s 3, s 4, s 5, s 6, s 7]
    exact h2
theorem vo_set : ∀ (l : List (Nat → Value)) (j : Nat) (r : Nat → Value), j < l.length → vo (l.set j r) = ((((((((vo l).set (j * 8 + 0) (r 0)).set (j * 8 + 1) (r 1)).set (j * 8 + 2) (r 2)).set (j * 8 + 3) (r 3)).set (j * 8 + 4) (r 4)).set (j * 8 + 5) (r 5)).set (j * 8 + 6) (r 6)).set (j * 8 + 7) (r 7)
  | [], _, _, h => absurd h (Nat.not_lt_zero _)
  | q :: l, 0, r, _ => rfl
  | q :: l, j + 1, r, h => by
    have ih := vo_set l j r (by simpa using h)
    have e : vo ((q :: l).set (j + 1) r) = [q 0, q 1, q 2, q 3, q 4, q 5, q 6, q 7] ++ vo (l.set j r) := rfl
    rw [e, ih, show (j + 1) * 8 + 0 = (j * 8 + 0) + 8 by omega, show (j + 1) * 8 + 1 = (j * 8 + 1) + 8 by omega, show (j + 1) * 8 + 2 = (j * 8 + 2) + 8 by omega, show (j + 1) * 8 + 3 = (j * 8 + 3) + 8 by omega, show (j + 1) * 8 + 4 = (j * 8 + 4) + 8 by omega, show (j + 1) * 8 + 5 = (j * 8 + 5) + 8 by omega, show (j + 1) * 8 + 6 = (j * 8 + 6) + 8 by omega, show (j + 1) * 8 + 7 = (j * 8 + 7) + 8 by omega]
    rfl
theorem vo_takeN : ∀ (l : List (Nat → Value)) (n : Nat), (vo l).take (n * 8) = vo (l.take n)
  | [], n => by simp [vo]
  | r :: l, 0 => by simp [vo]
  | r :: l, n + 1 => by
    have ih := vo_takeN l n
    rw [show (n + 1) * 8 = n * 8 + 8 by omega, List.take_succ_cons]
    show [r 0, r 1, r 2, r 3, r 4, r 5, r 6, r 7] ++ (vo l).take (n * 8) = [r 0, r 1, r 2, r 3, r 4, r 5, r 6, r 7] ++ vo (l.take n)
    rw [ih]
theorem own_oct {w : World} {base n g cap j : Nat} {l : List (Nat → Value)} (h : w.ownsRow base 37 8 (.slice (some ⟨g, 0, none⟩) n cap) n (vo l)) (r : Nat → Value) (hj : j < n) (hl : l.length = n) : (w.setCells g (j * 8) (oC r).toList).ownsRow base 37 8 (.slice (some ⟨g, 0, none⟩) n cap) n (vo (l.set j r)) := by
  rw [vo_set l j r (by omega)]
  exact own_cellS (own_cellS (own_cellS (own_cellS (own_cellS (own_cellS (own_cellS (own_cellS h _) _) _) _) _) _) _) _
theorem own_range8 {w : World} {base n g cap : Nat} {l : List (Nat → Value)} (h : w.ownsRow base 37 8 (.slice (some ⟨g, 0, none⟩) n cap) n (vo l)) (hl : l.length = n) (j : Nat) (hj : j < n) : w.rangeAt g (0 + j * 8) (oC (gO l j)).toList := by
  have hc := h.cells (g := g) rfl
  obtain ⟨a0, a1, a2, a3, a4, a5, a6, a7⟩ := vo_at l j (by omega)
  intro q v hv
  match q, hv with
  | 0, hv =>
    rw [← Option.some.inj hv]
    have := hc _ _ a0
    rw [add_at, Nat.zero_add] at this
    rw [Nat.zero_add]
    exact this
  | 1, hv =>
    rw [← Option.some.inj hv]
    have := hc _ _ a1
    rw [add_at, Nat.zero_add] at this
    rw [Nat.zero_add]
    exact this
  | 2, hv =>
    rw [← Option.some.inj hv]
    have := hc _ _ a2
    rw [add_at, Nat.zero_add] at this
    rw [Nat.zero_add]
    exact this
  | 3, hv =>
    rw [← Option.some.inj hv]
    have := hc _ _ a3
    rw [add_at, Nat.zero_add] at this
    rw [Nat.zero_add]
    exact this
  | 4, hv =>
    rw [← Option.some.inj hv]
    have := hc _ _ a4
    rw [add_at, Nat.zero_add] at this
    rw [Nat.zero_add]
    exact this
  | 5, hv =>
    rw [← Option.some.inj hv]
    have := hc _ _ a5
    rw [add_at, Nat.zero_add] at this
    rw [Nat.zero_add]
    exact this
  | 6, hv =>
    rw [← Option.some.inj hv]
    have := hc _ _ a6
    rw [add_at, Nat.zero_add] at this
    rw [Nat.zero_add]
    exact this
  | 7, hv =>
    rw [← Option.some.inj hv]
    have := hc _ _ a7
    rw [add_at, Nat.zero_add] at this
    rw [Nat.zero_add]
    exact this
  | _ + 8, hv => simp [oC] at hv
theorem own_there8 {w : World} {base n g cap : Nat} {l : List (Nat → Value)} (h : w.ownsRow base 37 8 (.slice (some ⟨g, 0, none⟩) n cap) n (vo l)) (hl : l.length = n) (j : Nat) (hj : j < n) : w.there g (0 + j * 8) 8 := by
  have hr := own_range8 h hl j hj
  rcases h.2 with ⟨h3, _⟩ | ⟨g', c', cur, h3, h4, h5, h6, h7, h8, h9⟩
  · cases h3
  · injection h3 with e1 e2 e3
    injection e1 with e1
    injection e1 with e1
    subst e1 e3
    intro q hq
    refine ⟨?_, (show Row w g 37 cur from h5).frozen _⟩
    match q, hq with
    | 0, _ => rw [hr 0 _ rfl]; rfl
    | 1, _ => rw [hr 1 _ rfl]; rfl
    | 2, _ => rw [hr 2 _ rfl]; rfl
    | 3, _ => rw [hr 3 _ rfl]; rfl
    | 4, _ => rw [hr 4 _ rfl]; rfl
    | 5, _ => rw [hr 5 _ rfl]; rfl
    | 6, _ => rw [hr 6 _ rfl]; rfl
    | 7, _ => rw [hr 7 _ rfl]; rfl
    | _ + 8, hq => omega
theorem cells_grown : ∀ (cs : List Value) (W : World) (g o : Nat), W.grownBy (W.setCells g o cs) (some g)
  | [], W, g, o => ⟨rfl, rfl, rfl, Nat.le_refl _, fun _ _ _ => rfl⟩
  | c :: cs, W, g, o => by
    have h := cells_grown cs (W.setCell ⟨g, o, none⟩ c) g (o + 1)
    have h0 : W.grownBy (W.setCell ⟨g, o, none⟩ c) (some g) := ⟨rfl, rfl, rfl, by simp, fun b _ hb => Below.heap_setCell _ _ _ b (fun e => hb (by rw [e]))⟩
    exact h0.trans h
end Go.Proofs.YtimhbjlmpojhoaaGreatDoor.Bf

/-! A Book of lists of ranges: what it holds. Written by mkbook8.py out of AeBook.lean. -/
namespace Go.Proofs.YtimhbjlmpojhoaaGreatDoor.Bf
open Go Go.RowKit
open Go.Proofs.YtimhbjlmpojhoaaGreatDoor.Bq (Sep OwnB own_keepP below_keepP keep_grown keep_below run_append_two wpList_append_two run_cellB run_lenB run_storeMid8 run_lssI8)

/-- The mark of the list with this place, as it is written. -/
def mk (n : Nat) : Nat → Value
  | 0 => .int .u8 0
  | 4 => .int .u64 ((1000 + n : Nat) : Int)
  | 5 => .bool false
  | 6 => .slice none 0 0
  | 7 => .slice none 0 0
  | _ => .int .u64 0
/-- The book holds m lists in block h; each owns its elements; old memory is as it was. -/
structure St (S B h m cap : Nat) (nu : Nat → Nat) (E : Nat → Value) (N : Nat → Nat) (Lg : Nat → Value) (X : Nat → List (Nat → Value)) (w0 W : World) : Prop where
  sS : S ≤ W.heap.size
  bB : B < W.heap.size
  bh : h < W.heap.size
  book : W.cell? ⟨B, 7, none⟩ = some (.slice (some ⟨h, 0, none⟩) m cap)
  l : ∀ i, i < m → W.cell? ⟨h, i * 3, none⟩ = some (E i)
  g : ∀ i, i < m → W.cell? ⟨h, i * 3 + 1, none⟩ = some (Lg i)
  n : ∀ i, i < m → W.cell? ⟨h, i * 3 + 2, none⟩ = some (.int .i64 (nu i : Int))
  fz : ∀ j, W.frozen? ⟨h, j, none⟩ = false
  rows : ∀ i, i < m → W.ownsRow S 37 8 (E i) (N i) (vo (X i))
  below : Below S w0 W

theorem St.grown {S B h m cap : Nat} {nu : Nat → Nat} {E : Nat → Value} {N : Nat → Nat} {Lg : Nat → Value} {X : Nat → List (Nat → Value)} {w0 W W' : World} {row : Option Nat} (st : St S B h m cap nu E N Lg X w0 W) (hg : W.grownBy W' row)
    (hS : ∀ k, row = some k → S ≤ k) (hB : row ≠ some B) (hh : row ≠ some h) (he : ∀ i, i < m → (E i).ownBlock = none ∨ (E i).ownBlock ≠ row) : St S B h m cap nu E N Lg X w0 W' where
  sS := Nat.le_trans st.sS hg.size
  bB := Nat.lt_of_lt_of_le st.bB hg.size
  bh := Nat.lt_of_lt_of_le st.bh hg.size
  book := hg.cell st.book (fun e => hB e.symm)
  l := fun i hi => hg.cell (st.l i hi) (fun e => hh e.symm)
  g := fun i hi => hg.cell (st.g i hi) (fun e => hh e.symm)
  n := fun i hi => hg.cell (st.n i hi) (fun e => hh e.symm)
  fz := fun j => (World.frozen?_of_block (w := W) (a := ⟨h, j, none⟩) (hg.block h st.bh (fun e => hh e.symm))).trans (st.fz j)
  rows := fun i hi => (st.rows i hi).kept hg (he i hi)
  below := st.below.grown hg st.sS hS

theorem St.alloc {S B h m cap : Nat} {nu : Nat → Nat} {E : Nat → Value} {N : Nat → Nat} {Lg : Nat → Value} {X : Nat → List (Nat → Value)} {w0 W : World} (st : St S B h m cap nu E N Lg X w0 W) (o : Obj) : St S B h m cap nu E N Lg X w0 (W.alloc o) :=
  st.grown (World.grownBy_alloc W o none) (fun _ e => by cases e) (by simp) (by simp) (fun i _ => by
    by_cases h : (E i).ownBlock = none
    · exact .inl h
    · exact .inr h)

theorem St.drew {S B h m cap : Nat} {nu : Nat → Nat} {E : Nat → Value} {N : Nat → Nat} {Lg : Nat → Value} {X : Nat → List (Nat → Value)} {w0 W : World} (st : St S B h m cap nu E N Lg X w0 W) : St S B h m cap nu E N Lg X w0 W.drew :=
  ⟨st.sS, st.bB, st.bh, st.book, st.l, st.g, st.n, st.fz, st.rows, st.below.drew⟩

theorem St.belowW {S B h m cap : Nat} {nu : Nat → Nat} {E : Nat → Value} {N : Nat → Nat} {Lg : Nat → Value} {X : Nat → List (Nat → Value)} {w0 W W' : World} (st : St S B h m cap nu E N Lg X w0 W) (hb : Below W.heap.size W W') : St S B h m cap nu E N Lg X w0 W' :=
  st.grown (row := none) ⟨hb.os, hb.tape, hb.output, hb.size, fun k hk _ => hb.block k hk⟩ (fun _ e => by cases e) (by simp) (by simp) (fun i _ => by
    by_cases h : (E i).ownBlock = none
    · exact .inl h
    · exact .inr h)
theorem rowsLen {W : World} {S n : Nat} {v : Value} {l : List (Nat → Value)} (h : W.ownsRow S 37 8 v n (vo l)) : l.length = n := by have := h.1; rw [vo_length] at this; omega
/-- One element of one list is written. -/
theorem St.store {S B h m cap : Nat} {nu : Nat → Nat} {E : Nat → Value} {N : Nat → Nat} {Lg : Nat → Value} {X : Nat → List (Nat → Value)} {w0 W : World} (st : St S B h m cap nu E N Lg X w0 W) (sep : Sep S B h m E) {i g c : Nat} (hi : i < m) (he : E i = .slice (some ⟨g, 0, none⟩) (N i) c) (k : Nat) (hk : k < N i) (u : Nat → Value) :
    St S B h m cap nu E N Lg (fun j => if j = i then (X i).set k u else X j) w0 (W.setCells g (k * 8) (oC u).toList) := by
  have hob : (E i).ownBlock = some g := by rw [he]; rfl
  have hSg : S ≤ g := ((st.rows i hi).lt g hob).1
  have hgr : W.grownBy (W.setCells g (k * 8) (oC u).toList) (some g) := cells_grown _ _ _ _
  have hgB : some g ≠ some B := fun e => sep.eB i hi (hob.trans e)
  have hgh : some g ≠ some h := fun e => sep.eh i hi (hob.trans e)
  refine ⟨Nat.le_trans st.sS hgr.size, Nat.lt_of_lt_of_le st.bB hgr.size, Nat.lt_of_lt_of_le st.bh hgr.size, hgr.cell st.book (fun e => hgB e.symm), fun j hj => hgr.cell (st.l j hj) (fun e => hgh e.symm), fun j hj => hgr.cell (st.g j hj) (fun e => hgh e.symm), fun j hj => hgr.cell (st.n j hj) (fun e => hgh e.symm), fun j => (World.frozen?_of_block (w := W) (a := ⟨h, j, none⟩) (hgr.block h st.bh (fun e => hgh e.symm))).trans (st.fz j), fun j hj => ?_, st.below.grown hgr st.sS (fun b e => by injection e with e; omega)⟩
  by_cases hji : j = i
  · subst hji
    rw [if_pos rfl]
    have hr := st.rows j hj
    rw [he] at hr ⊢
    exact own_oct hr u hk (rowsLen hr)
  · rw [if_neg hji]
    refine (st.rows j hj).kept hgr ?_
    rcases sep.ee j i hj hi hji with h | h
    · exact .inl h
    · exact .inr (by rw [← hob]; exact h)

/-- What a value that owns a row looks like. -/
theorem bookOwn_shape {W : World} {S : Nat} {v : Value} {n : Nat} {xs : List Value} (h : W.ownsRow S 37 8 v n xs) : (v = .slice none 0 0 ∧ n = 0) ∨ ∃ g c, v = .slice (some ⟨g, 0, none⟩) n c ∧ n ≤ c := by
  rcases h.2 with ⟨h1, h2⟩ | ⟨g, c, _, h1, _, _, h2, _⟩
  · exact .inl ⟨h1, h2⟩
  · exact .inr ⟨g, c, h1, h2⟩

theorem set_step (xs : List (Nat → Value)) (k n : Nat) (u : Nat → Value) (hl : xs.length = n) (hk : k < n) (h : xs.take k = List.replicate k u) : (xs.set k u).take (k + 1) = List.replicate (k + 1) u := by
  have hk2 : k < (xs.set k u).length := by rw [List.length_set]; omega
  rw [List.take_succ_eq_append_getElem hk2, List.getElem_set_self, List.take_set_of_le (Nat.le_refl _), h, List.replicate_succ']

/-- A beginning of a row is owned as the row is. -/
theorem own_prefix {W : World} {S g c n k : Nat} {l : List (Nat → Value)} (h : W.ownsRow S 37 8 (.slice (some ⟨g, 0, none⟩) (n + k) c) (n + k) (vo l)) : W.ownsRow S 37 8 (.slice (some ⟨g, 0, none⟩) n c) n (vo (l.take n)) := by
  have hll := rowsLen h
  refine ⟨by rw [vo_length, List.length_take]; omega, ?_⟩
  rcases h.2 with ⟨h1, _⟩ | ⟨g', c', cur, hv, hb, hg, hn, hc, hs, ht⟩
  · cases h1
  · cases hv
    refine .inr ⟨g, c, cur, rfl, hb, hg, by omega, hc, hs, ?_⟩
    rw [← vo_takeN, ← ht, List.take_take]
    congr 1
    omega

/-- Old memory but one list's row is as it was: so is the book. -/
theorem St.grown_at {S B h m cap : Nat} {nu : Nat → Nat} {E : Nat → Value} {N : Nat → Nat} {Lg : Nat → Value} {X : Nat → List (Nat → Value)} {w0 W W' : World} {row : Option Nat} (st : St S B h m cap nu E N Lg X w0 W) (hg : W.grownBy W' row) (k : Nat)
    (hS : ∀ k, row = some k → S ≤ k) (hB : row ≠ some B) (hh : row ≠ some h) (he : ∀ i, i < m → i ≠ k → (E i).ownBlock = none ∨ (E i).ownBlock ≠ row) (hk : k < m → W'.ownsRow S 37 8 (E k) (N k) (vo (X k))) : St S B h m cap nu E N Lg X w0 W' where
  sS := Nat.le_trans st.sS hg.size
  bB := Nat.lt_of_lt_of_le st.bB hg.size
  bh := Nat.lt_of_lt_of_le st.bh hg.size
  book := hg.cell st.book (fun e => hB e.symm)
  l := fun i hi => hg.cell (st.l i hi) (fun e => hh e.symm)
  g := fun i hi => hg.cell (st.g i hi) (fun e => hh e.symm)
  n := fun i hi => hg.cell (st.n i hi) (fun e => hh e.symm)
  fz := fun j => (World.frozen?_of_block (w := W) (a := ⟨h, j, none⟩) (hg.block h st.bh (fun e => hh e.symm))).trans (st.fz j)
  rows := fun i hi => by
    by_cases hik : i = k
    · rw [hik] at hi ⊢; exact hk hi
    · exact (st.rows i hi).kept hg (he i hi hik)
  below := st.below.grown hg st.sS hS

/-- The longer list is kept. -/
theorem St.lay {S B h m cap : Nat} {nu : Nat → Nat} {E : Nat → Value} {N : Nat → Nat} {Lg : Nat → Value} {X : Nat → List (Nat → Value)} {w0 W : World} (st : St S B h m cap nu E N Lg X w0 W) (sep : Sep S B h m E) {k : Nat} (hk : k < m) (u : Value) :
    St S B h m cap nu E N (fun j => if j = k then u else Lg j) X w0 (W.setCell ⟨h, k * 3 + 1, none⟩ u) := by
  have hgr : W.grownBy (W.setCell ⟨h, k * 3 + 1, none⟩ u) (some h) := ⟨rfl, rfl, rfl, by simp, fun b _ hb => Below.heap_setCell _ _ _ b (fun e => hb (by rw [e]))⟩
  have hBh : some B ≠ some h := fun e => sep.Bh (by injection e)
  refine ⟨Nat.le_trans st.sS hgr.size, Nat.lt_of_lt_of_le st.bB hgr.size, Nat.lt_of_lt_of_le st.bh hgr.size, hgr.cell st.book hBh, fun j hj => ?_, fun j hj => ?_, fun j hj => ?_, fun j => ?_, fun j hj => (st.rows j hj).kept hgr (.inr (sep.eh j hj)), st.below.setCell (p := ⟨h, k * 3 + 1, none⟩) sep.Sh u⟩
  · rw [World.cell?_setCell_other _ _ _ _ (by intro e; injection e; omega)]
    exact st.l j hj
  · by_cases hjk : j = k
    · subst hjk
      rw [if_pos rfl]
      exact World.cell?_setCell_same _ _ _ (st.g j hj)
    · rw [if_neg hjk, World.cell?_setCell_other _ _ _ _ (by intro e; injection e; omega)]
      exact st.g j hj
  · rw [World.cell?_setCell_other _ _ _ _ (by intro e; injection e; omega)]
    exact st.n j hj
  · rw [World.frozen?_setCell]
    exact st.fz j

/-- Each of the first k lists has its longer one, apart from all else. -/
structure Gr (S B h m k : Nat) (nu : Nat → Nat) (E : Nat → Value) (N : Nat → Nat) (Lg : Nat → Value) (W : World) : Prop where
  rows : ∀ j, j < k → W.ownsRow S 37 8 (Lg j) (N j + 40) (vo (List.replicate (N j + 40) (mk (nu j))))
  nB : ∀ j, j < k → (Lg j).ownBlock ≠ some B
  nh : ∀ j, j < k → (Lg j).ownBlock ≠ some h
  ne : ∀ j i, j < k → i < m → i ≠ j → (Lg j).ownBlock ≠ (E i).ownBlock

theorem Gr.grown {S B h m k : Nat} {nu : Nat → Nat} {E : Nat → Value} {N : Nat → Nat} {Lg : Nat → Value} {W W' : World} {row : Option Nat} (gr : Gr S B h m k nu E N Lg W) (hg : W.grownBy W' row) (hr : ∀ j, j < k → (Lg j).ownBlock ≠ row) : Gr S B h m k nu E N Lg W' :=
  ⟨fun j hj => (gr.rows j hj).kept hg (.inr (hr j hj)), gr.nB, gr.nh, gr.ne⟩

/-- What one more element behind a list leaves. -/
theorem grow_step {S B h m cap k q H : Nat} {nu : Nat → Nat} {E : Nat → Value} {N : Nat → Nat} {Lg : Nat → Value} {w0 W W' : World} {v : Value} {g c : Nat} (hk : k < m) (sep : Sep S B h m E) (st : St S B h m cap nu E N Lg (fun i => List.replicate (N i) (mk (nu i))) w0 W) (gr : Gr S B h m k nu E N Lg W)
    (hv : (v = E k ∧ q = 0) ∨ (∃ g1 c1, v = .slice (some ⟨g1, 0, none⟩) (N k + q) c1 ∧ ((∃ n1, E k = .slice (some ⟨g1, 0, none⟩) n1 c1) ∨ H ≤ g1)))
    (hH : H ≤ W.heap.size) (hHB : B < H) (hHh : h < H) (hHE : ∀ i, i < m → ∀ b, (E i).ownBlock = some b → b < H) (hHL : ∀ j, j < k → ∀ b, (Lg j).ownBlock = some b → b < H)
    (hown' : W'.ownsRow S 37 8 (.slice (some ⟨g, 0, none⟩) (N k + q + 1) c) (N k + q + 1) (vo (List.replicate (N k + q) (mk (nu k))) ++ vo [mk (nu k)]))
    (hat : (v = .slice (some ⟨g, 0, none⟩) (N k + q) c ∧ W.grownBy W' (some g)) ∨ (g = W.heap.size ∧ W.grownBy W' none)) :
    St S B h m cap nu E N Lg (fun i => List.replicate (N i) (mk (nu i))) w0 W' ∧ Gr S B h m k nu E N Lg W' ∧
      ((∃ n1, E k = .slice (some ⟨g, 0, none⟩) n1 c) ∨ H ≤ g) ∧
      W'.ownsRow S 37 8 (.slice (some ⟨g, 0, none⟩) (N k + (q + 1)) c) (N k + (q + 1)) (vo (List.replicate (N k + (q + 1)) (mk (nu k)))) ∧ H ≤ W'.heap.size ∧ (∀ a : Addr, a.block < H → (∀ n1, E k ≠ .slice (some ⟨a.block, 0, none⟩) n1 c) → W'.cell? a = W.cell? a) := by
  have ho : W'.ownsRow S 37 8 (.slice (some ⟨g, 0, none⟩) (N k + (q + 1)) c) (N k + (q + 1)) (vo (List.replicate (N k + (q + 1)) (mk (nu k)))) := by
    have e : vo (List.replicate (N k + (q + 1)) (mk (nu k))) = vo (List.replicate (N k + q) (mk (nu k))) ++ vo [mk (nu k)] := by
      rw [show N k + (q + 1) = (N k + q) + 1 by omega, List.replicate_succ', vo_append]
    rw [e]
    exact hown'
  have hSg : S ≤ g := (ho.lt g rfl).1
  rcases hat with ⟨hvg, hgr⟩ | ⟨hgn, hgr⟩
  · have hplace : (∃ n1, E k = .slice (some ⟨g, 0, none⟩) n1 c) ∨ H ≤ g := by
      rcases hv with ⟨h1, h2⟩ | ⟨g1, c1, h1, h2⟩
      · left
        exact ⟨_, h1.symm.trans hvg⟩
      · rw [hvg] at h1
        injection h1 with e1 e2 e3
        injection e1 with e1
        injection e1 with e1
        subst e1 e3
        exact h2
    have hob : ∀ b, b < H → (∀ n1, E k ≠ .slice (some ⟨b, 0, none⟩) n1 c) → b ≠ g := by
      intro b hb hne e
      subst e
      rcases hplace with ⟨n1, h1⟩ | h1
      · exact hne n1 h1
      · omega
    have hgB : some g ≠ some B := by
      intro e; injection e with e
      refine hob B hHB (fun n1 hE => sep.eB k hk (by rw [hE]; rfl)) e.symm
    have hgh : some g ≠ some h := by
      intro e; injection e with e
      refine hob h hHh (fun n1 hE => sep.eh k hk (by rw [hE]; rfl)) e.symm
    refine ⟨st.grown_at hgr k (fun b e => by injection e with e; omega) hgB hgh (fun i hi hik => ?_) (fun _ => ?_), gr.grown hgr (fun j hj e => ?_), hplace, ho, Nat.le_trans hH hgr.size, fun a ha hne => ?_⟩
    · cases hEi : (E i).ownBlock with
      | none => exact .inl rfl
      | some b =>
        right
        intro e
        injection e with e
        subst e
        refine hob b (hHE i hi b hEi) (fun n1 hE => ?_) rfl
        rcases sep.ee i k hi hk hik with h1 | h1
        · rw [hEi] at h1; cases h1
        · exact h1 (by rw [hEi, hE]; rfl)
    · rcases hplace with ⟨n1, h1⟩ | h1
      · have hn1 : n1 = N k := by
          rcases bookOwn_shape (st.rows k hk) with ⟨h2, _⟩ | ⟨g2, c2, h2, _⟩
          · rw [h1] at h2; cases h2
          · rw [h1] at h2; injection h2
        rw [h1, hn1]
        have := own_prefix ho
        rw [List.take_replicate, Nat.min_eq_left (by omega)] at this
        exact this
      · refine (st.rows k hk).kept hgr ?_
        cases hEk : (E k).ownBlock with
        | none => exact .inl rfl
        | some b => right; intro e; injection e with e; have := hHE k hk b hEk; omega
    · cases hLj : (Lg j).ownBlock with
      | none => rw [hLj] at e; cases e
      | some b =>
        rw [hLj] at e; injection e with e; subst e
        refine hob b (hHL j hj b hLj) (fun n1 hE => ?_) rfl
        exact gr.ne j k hj hk (by omega) (by rw [hLj, hE]; rfl)
    · exact World.cell?_of_block (hgr.block a.block (by omega) (by intro e; injection e with e; exact hob a.block ha hne e))
  · refine ⟨st.grown hgr (fun b e => by cases e) (by simp) (by simp) (fun i _ => ?_), gr.grown hgr (fun j hj e => ?_), .inr (by omega), ho, Nat.le_trans hH hgr.size, fun a ha _ => ?_⟩
    · cases hEi : (E i).ownBlock with
      | none => exact .inl rfl
      | some b => right; simp
    · rcases (gr.rows j hj).2 with ⟨_, h0⟩ | ⟨g2, c2, _, h2, _⟩
      · omega
      · rw [h2] at e; cases e
    · exact World.cell?_of_block (hgr.block a.block (by omega) (by simp))

theorem St.keep {S B h m cap : Nat} {nu : Nat → Nat} {E : Nat → Value} {N : Nat → Nat} {Lg : Nat → Value} {X : Nat → List (Nat → Value)} {w0 W W' : World} {st : Nat → Prop} (s : St S B h m cap nu E N Lg X w0 W) (k : KeepP st W W') (hS : ∀ b, st b → S ≤ b) (hB : ¬ st B) (hh : ¬ st h) (he : ∀ i, i < m → ∀ b, (E i).ownBlock = some b → ¬ st b) : St S B h m cap nu E N Lg X w0 W' where
  sS := Nat.le_trans s.sS k.size
  bB := Nat.lt_of_lt_of_le s.bB k.size
  bh := Nat.lt_of_lt_of_le s.bh k.size
  book := (World.cell?_of_block (w := W) (a := ⟨B, 7, none⟩) (k.block B s.bB hB)).trans s.book
  l := fun i hi => (World.cell?_of_block (w := W) (a := ⟨h, i * 3, none⟩) (k.block h s.bh hh)).trans (s.l i hi)
  g := fun i hi => (World.cell?_of_block (w := W) (a := ⟨h, i * 3 + 1, none⟩) (k.block h s.bh hh)).trans (s.g i hi)
  n := fun i hi => (World.cell?_of_block (w := W) (a := ⟨h, i * 3 + 2, none⟩) (k.block h s.bh hh)).trans (s.n i hi)
  fz := fun j => (World.frozen?_of_block (w := W) (a := ⟨h, j, none⟩) (k.block h s.bh hh)).trans (s.fz j)
  rows := fun i hi => own_keepP (s.rows i hi) k (he i hi)
  below := below_keepP s.below k s.sS hS
theorem Gr.keep {S B h m k : Nat} {nu : Nat → Nat} {E : Nat → Value} {N : Nat → Nat} {Lg : Nat → Value} {W W' : World} {st : Nat → Prop} (gr : Gr S B h m k nu E N Lg W) (kp : KeepP st W W') (hst : ∀ j, j < k → ∀ b, (Lg j).ownBlock = some b → ¬ st b) : Gr S B h m k nu E N Lg W' :=
  ⟨fun j hj => own_keepP (gr.rows j hj) kp (hst j hj), gr.nB, gr.nh, gr.ne⟩
end Go.Proofs.YtimhbjlmpojhoaaGreatDoor.Bf

/-! The marks of frames. Written by mkbkf.py. -/
namespace Go.Proofs.YtimhbjlmpojhoaaGreatDoor.Bf
open Go Go.RowKit
open Go.Proofs.YtimhbjlmpojhoaaGreatDoor.Bq (Sep OwnB own_keepP below_keepP keep_grown keep_below run_append_two wpList_append_two run_cellB run_lenB run_storeMid8 run_lssI8)

theorem mk_cells (k : Nat) : oC (mk k) = #[.int .u8 0, .int .u64 0, .int .u64 0, .int .u64 0, .int .u64 (1000 + (k : Int)), .bool false, .slice none 0 0, .slice none 0 0] := by
  have e1 : (((1000 + k : Nat)) : Int) = 1000 + (k : Int) := by omega
  rw [← e1]
  rfl
set_option maxRecDepth 20000 in
set_option maxHeartbeats 400000 in
theorem mark_r (k : Nat) (w : World) (h1 : k ≤ 5000000) :
    Calls Tryz.prog 96 #[.int .i64 (k : Int)] w fun e w' => e = .returned (.agg (oC (mk k))) ∧ Below w.heap.size w w' := by
  rw [mk_cells]
  go_enter Tryz.func96, Tryz.ntmps96
  go_wp2
  refine bodyPost_ret (results_cell_row rfl _ _ w.heap.size _ #[.int .u8 0, .int .u64 0, .int .u64 0, .int .u64 0, .int .u64 (1000 + (k : Int)), .bool false, .slice none 0 0, .slice none 0 0] (0, 0) _ rfl (Row.new w 37 _) Tryz.underlying37 rfl (by kernel_rfl)) rfl ?_
  exact ⟨rfl, (Below.refl _ w).alloc (Nat.le_refl _) _⟩
theorem mark_l (k : Nat) (w : World) (h1 : k ≤ 5000000) :
    Calls Tryz.prog 96 #[.int .i64 (k : Int)] w fun e w' => e = .returned (.agg #[mk k 0, mk k 1, mk k 2, mk k 3, mk k 4, mk k 5, mk k 6, mk k 7]) ∧ Below w.heap.size w w' := mark_r k w h1

set_option maxRecDepth 20000 in
set_option maxHeartbeats 400000 in
theorem is_r (k : Nat) (w : World) (h1 : k ≤ 5000000) :
    Calls Tryz.prog 108 #[.agg (oC (mk k)), .int .i64 (k : Int)] w fun e w' => e = .returned (.bool true) ∧ Below w.heap.size w w' := by
  rw [mk_cells]
  have r0 : Row (w.alloc (.cells #[.int .u8 0, .int .u64 0, .int .u64 0, .int .u64 0, .int .u64 (1000 + (k : Int)), .bool false, .slice none 0 0, .slice none 0 0] 37)) w.heap.size 37 #[.int .u8 0, .int .u64 0, .int .u64 0, .int .u64 0, .int .u64 (1000 + (k : Int)), .bool false, .slice none 0 0, .slice none 0 0] := Row.new _ _ _
  have c4 := r0.cell 4
  have HB := veil (show Below w.heap.size w (w.alloc (.cells #[.int .u8 0, .int .u64 0, .int .u64 0, .int .u64 0, .int .u64 (1000 + (k : Int)), .bool false, .slice none 0 0, .slice none 0 0] 37)) from (Below.refl _ w).alloc (Nat.le_refl _) _)
  clear r0
  go_enter Tryz.func108, Tryz.ntmps108
  go_wp2
  go_ret
  exact ⟨by simp, HB.out⟩
end Go.Proofs.YtimhbjlmpojhoaaGreatDoor.Bf

/-! What a Book of lists of ranges does to memory: each list is filled with its mark. Written by mkfill8.py. -/
namespace Go.Proofs.YtimhbjlmpojhoaaGreatDoor.Bf
open Go Go.RowKit
open Go.Proofs.YtimhbjlmpojhoaaGreatDoor.Bq (Sep OwnB own_keepP below_keepP keep_grown keep_below run_append_two wpList_append_two run_cellB run_lenB run_storeMid8 run_lssI8)

def depF8 : Nat → List Nat
  | 1 => [0]
  | 4 => [3]
  | 5 => [4]
  | 6 => [1, 2]
  | 7 => [6, 5]
  | _ => []
def dclF8 : Nat → List Nat
  | 7 => [6, 5, 4, 3, 2, 1, 0]
  | 6 => [1, 2, 0]
  | 5 => [4, 3]
  | 4 => [3]
  | 1 => [0]
  | _ => []
def valF8 (Hb g nk c q k : Nat) : Nat → Value
  | 0 => .pointer (some ⟨Hb, 0, none⟩)
  | 1 => .slice (some ⟨g, 0, none⟩) nk c
  | 2 => .int .i64 (q : Int)
  | 3 => .pointer (some ⟨Hb, 2, none⟩)
  | 4 => .int .i64 (k : Int)
  | 6 => .pointer (some ⟨g, 0 + q * 8, none⟩)
  | _ => undef
/-- What the world is ahead of the call, behind it, and behind the store. -/
def fR8 (wr : World) (g q k : Nat) : Nat → World → Value → Prop
  | 0, W, _ => Below wr.heap.size wr W
  | 1, W, u => Below wr.heap.size wr W ∧ u = .agg (oC (mk k))
  | _, W, _ => ∃ W1, Below wr.heap.size wr W1 ∧ W = W1.setCells g (q * 8) (oC (mk k)).toList
theorem fR8.zero {wr W : World} {g q k : Nat} {u : Value} (h : fR8 wr g q k 0 W u) : Below wr.heap.size wr W := h
theorem fR8.one {wr W : World} {g q k : Nat} {u : Value} (h : fR8 wr g q k 1 W u) : Below wr.heap.size wr W ∧ u = .agg (oC (mk k)) := h
theorem fR8.two {wr W : World} {g q k : Nat} {u : Value} (h : fR8 wr g q k 2 W u) : ∃ W1, Below wr.heap.size wr W1 ∧ W = W1.setCells g (q * 8) (oC (mk k)).toList := h

set_option maxRecDepth 20000 in
set_option maxHeartbeats 2000000 in
theorem fill_any (S B h m cap : Nat) (nu : Nat → Nat) (E : Nat → Value) (N : Nat → Nat) (Lg : Nat → Value) (X : Nat → List (Nat → Value)) (w0 wF : World) (hnu : ∀ i, i < m → nu i ≤ 5000000) (hm2 : m ≤ 3000000) (hN : ∀ i, i < m → N i ≤ 5000000) (hLg : ∀ i, i < m → Lg i = .slice none 0 0) (sep : Sep S B h m E) (st : St S B h m cap nu E N Lg X w0 wF) :
    Calls Tryz.prog 39 #[.pointer (some ⟨B, 0, none⟩)] wF fun e w' => e = .returned (.tuple #[]) ∧ St S B h m cap nu E N Lg (fun i => List.replicate (N i) (mk (nu i))) w0 w' ∧ KeepP (Bq.OwnB m E) wF w' := by
  have hc := st.book
  have HST := veil st
  clear st
  refine (callsIn_wide (n := 4)).1 ?_
  refine callsIn_of_wp Tryz.func39 rfl trivial ?_ rfl
  simp only [Tryz.ntmps39, List.size_toArray, List.length_cons, List.length_nil, Nat.reduceAdd, Nat.reduceSub, Array.replicate_succ, Array.replicate_zero, List.push_toArray, List.append_toArray, List.nil_append, List.cons_append]
  gi_wp2_with fail
  gi_loopw [2] (fun i wr => ∃ (k : Nat) (Y : Nat → List (Nat → Value)), k ≤ m ∧ i = .int .i64 k ∧ St S B h m cap nu E N Lg Y w0 wr ∧ (∀ j, j < k → Y j = List.replicate (N j) (mk (nu j))) ∧ KeepP (Bq.OwnB m E) wF wr) (fun i _ => m - (intOf i).toNat)
  case atStart => exact ⟨0, X, Nat.zero_le _, rfl, HST.out, fun j hj => absurd hj (Nat.not_lt_zero _), KeepP.refl _ _⟩
  case round =>
    obtain ⟨k, Y, hk, rfl, st, hY, hkp⟩ := hrel
    have HKP := veil hkp
    clear hkp
    have hcb := st.book
    by_cases hlt : k < m
    · have c0 := st.l k hlt
      have c1 := st.g k hlt
      have c2 := st.n k hlt
      have hNk := hN k hlt
      have hkm : nu k ≤ 5000000 := hnu k hlt
      have HSR := veil st
      have HY := veil hY
      rw [hLg k hlt] at c1
      have hlen := rowsLen (st.rows k hlt)
      have hbh := st.bh
      obtain ⟨ao, c, hE⟩ : ∃ ao c, E k = .slice ao (N k) c := by
        rcases bookOwn_shape (st.rows k hlt) with ⟨h1, h2⟩ | ⟨g, c, h1, _⟩
        · exact ⟨none, 0, by rw [h1, h2]⟩
        · exact ⟨some ⟨g, 0, none⟩, c, h1⟩
      have HE := veil hE
      rw [hE] at c0
      clear st hY hE
      gi_wp2_with fail
      obtain ⟨wo, rfl⟩ : ∃ wo : World, wo = wr := ⟨_, rfl⟩
      have HA := HSR.out.alloc (.cells #[.slice ao (N k) c, .slice none 0 0, .int .i64 (nu k : Int)] 93)
      gi_loopw [4] (fun i wq => ∃ (q : Nat) (Z : List (Nat → Value)), q ≤ N k ∧ i = .int .i64 q ∧ St S B h m cap nu E N Lg (fun j => if j = k then Z else Y j) w0 wq ∧ Z.length = N k ∧ Z.take q = List.replicate q (mk (nu k)) ∧ wq.cell? ⟨wo.heap.size, 0, none⟩ = some (.slice ao (N k) c) ∧ wq.cell? ⟨wo.heap.size, 2, none⟩ = some (.int .i64 (nu k : Int)) ∧ wo.heap.size < wq.heap.size ∧ KeepP (Bq.OwnB m E) wF wq) (fun i _ => N k - (intOf i).toNat)
      case atStart =>
        refine ⟨0, Y k, Nat.zero_le _, rfl, ?_, hlen, rfl, by simp, by simp, by simp, keep_grown HKP.out (World.grownBy_alloc _ _ none) (fun b e => by cases e)⟩
        have e : (fun j => if j = k then Y k else Y j) = Y := by
          funext j
          by_cases hj : j = k
          · rw [if_pos hj, hj]
          · rw [if_neg hj]
        rw [e]
        exact HA
      case round =>
        obtain ⟨q, Z, hq, rfl, st2, hZl, hZ, hp0, hp2, hsq, hkp2⟩ := hrel
        have HKP2 := veil hkp2
        clear hkp2
        have HS2 := veil st2
        by_cases hqn : q < N k
        · obtain ⟨g, hao⟩ : ∃ g, ao = some ⟨g, 0, none⟩ := by
            rcases bookOwn_shape (HSR.out.rows k hlt) with ⟨h1, h2⟩ | ⟨g, c4, h1, _⟩
            · omega
            · rw [HE.out] at h1; injection h1 with e1 e2 e3; exact ⟨g, e1⟩
          subst hao
          have hgl : g < wo.heap.size := ((HSR.out.rows k hlt).lt g (by rw [HE.out]; rfl)).2
          have ownW : ∀ W', Below wr.heap.size wr W' → W'.ownsRow S 37 8 (.slice (some ⟨g, 0, none⟩) (N k) c) (N k) (vo Z) := by
            intro W' hb
            have hrow := (HS2.out.belowW hb).rows k hlt
            simp only [if_true] at hrow
            rw [HE.out] at hrow
            exact hrow
          have HZ := veil hZ
          have HZL := veil hZl
          have i1 : (0 : Int) ≤ (q : Int) := by omega
          have i2 : (q : Int) < (N k : Int) := by omega
          clear st2 hZ hZl HA
          gi_wp2_with fail
          refine wpIn_region_any (by kernel_rfl) ?_
          refine anyIn_spine (valF8 wo.heap.size g (N k) c q (nu k)) (fR8 wr g q (nu k)) undef [5, 7] [28, 29, 30, 31, 32, 33, 34, 100000] depF8 dclF8 (by kernel_rfl) (by decide) rfl (by decide) (by decide) ?ord (by decide) ((Below.refl _ _).drew) ?fix ?cal ?don
          case ord =>
            intro k i j h1 h2
            match k, h1, h2 with
            | 0, h1, h2 =>
              obtain rfl := Option.some.inj h1
              obtain rfl := Option.some.inj h2
              decide
            | 1, _, h2 => simp at h2
            | _ + 2, h1, _ => simp at h1
          case fix =>
            intro x W m2 ii d u hR hdi hni hdep hlo hhi
            have hm1 : m2 ≤ 1 ∨ 7 < ii := by
              by_cases h7 : 7 < ii
              · exact .inr h7
              · refine .inl (hhi 1 7 rfl ?_)
                have : ii = 0 ∨ ii = 1 ∨ ii = 2 ∨ ii = 3 ∨ ii = 4 ∨ ii = 6 := by
                  have : ii ≠ 5 := fun e => hni (by rw [e]; decide)
                  have : ii ≠ 7 := fun e => hni (by rw [e]; decide)
                  omega
                rcases this with rfl | rfl | rfl | rfl | rfl | rfl <;> decide
            have hbW : 7 < ii ∨ Below wr.heap.size wr W := by
              rcases hm1 with h1 | h1
              · right
                rcases Nat.le_one_iff_eq_zero_or_eq_one.1 h1 with rfl | rfl
                · exact fR8.zero hR
                · exact (fR8.one hR).1
              · exact .inl h1
            have hb0 : 7 < ii ∨ (W.cell? ⟨wo.heap.size, 0, none⟩ = some (.slice (some ⟨g, 0, none⟩) (N k) c) ∧ W.cell? ⟨wo.heap.size, 2, none⟩ = some (.int .i64 (nu k : Int))) := by
              rcases hbW with h1 | h1
              · exact .inl h1
              · exact .inr ⟨(World.cell?_of_block (w := wr) (a := ⟨wo.heap.size, 0, none⟩) (h1.block wo.heap.size hsq)).trans hp0, (World.cell?_of_block (w := wr) (a := ⟨wo.heap.size, 2, none⟩) (h1.block wo.heap.size hsq)).trans hp2⟩
            by_cases h7 : 7 < ii
            · rw [List.getElem?_eq_none (by simp; omega)] at hdi
              cases hdi
            obtain ⟨b0, b2⟩ := hb0.resolve_left h7
            clear hm1 hbW hb0 h7
            match ii, hdi, hdep with
            | 0, hdi, _ =>
              obtain rfl := Option.some.inj hdi
              exact OI_value rfl rfl (about_none (by intro c h; cases h)) (by intro c h; cases h) (.pointer (some ⟨wo.heap.size, 0, none⟩)) W (by kernel_rfl) ⟨rfl, rfl⟩
            | 1, hdi, hdep =>
              obtain rfl := Option.some.inj hdi
              rw [updV_self (show x 0 = _ from hdep 0 (by simp [depF8]) (by decide))]
              exact OI_value rfl rfl (about_none (by intro c h; cases h)) (by intro c h; cases h) (.slice (some ⟨g, 0, none⟩) (N k) c) W (run_cellB 22 _ ⟨wo.heap.size, 0, none⟩ _ _ rfl (by kernel_rfl) Tryz.underlying22 rfl W b0) ⟨rfl, rfl⟩
            | 2, hdi, _ =>
              obtain rfl := Option.some.inj hdi
              exact OI_value rfl rfl (about_none (by intro c h; cases h)) (by intro c h; cases h) (.int .i64 (q : Int)) W (by kernel_rfl) ⟨rfl, rfl⟩
            | 3, hdi, _ =>
              obtain rfl := Option.some.inj hdi
              exact OI_value rfl rfl (about_none (by intro c h; cases h)) (by intro c h; cases h) (.pointer (some ⟨wo.heap.size, 2, none⟩)) W (by kernel_rfl) ⟨rfl, rfl⟩
            | 4, hdi, hdep =>
              obtain rfl := Option.some.inj hdi
              rw [updV_self (show x 3 = _ from hdep 3 (by simp [depF8]) (by decide))]
              exact OI_value rfl rfl (about_none (by intro c h; cases h)) (by intro c h; cases h) (.int .i64 (nu k : Int)) W (run_cellB 3 _ ⟨wo.heap.size, 2, none⟩ _ _ rfl (by kernel_rfl) Tryz.underlying3 rfl W b2) ⟨rfl, rfl⟩
            | 5, _, _ => exact absurd (by decide) hni
            | 6, hdi, hdep =>
              obtain rfl := Option.some.inj hdi
              rw [updV_self (show x 1 = _ from hdep 1 (by simp [depF8]) (by decide)), updV_self (show (updV x 1 _) 2 = _ from hdep 2 (by simp [depF8]) (by decide))]
              exact OI_value rfl rfl (about_none (by intro c h; cases h)) (by intro c h; cases h) (.pointer (some ⟨g, 0 + q * 8, none⟩)) W (run_atR 22 37 8 _ _ g 0 (N k) c q rfl (by kernel_rfl) (by kernel_rfl) Tryz.underlying22 (by kernel_rfl) hqn W) ⟨rfl, rfl⟩
            | 7, _, _ => exact absurd (by decide) hni
            | _ + 8, hdi, _ => simp at hdi
          case cal =>
            intro x W k2 ii d u hR hk hdi hdep hu0 hup
            match k2, hk, hR, hup with
            | 0, hk, hR, _ =>
              obtain rfl := Option.some.inj hk
              obtain rfl := Option.some.inj hdi
              rw [updV_self (show x 4 = _ from hdep 4 (by simp [depF8]) (by decide))]
              refine OI_call rfl rfl (by intro c h; cases h) 96 #[.int .i64 (nu k : Int)] (fun _ _ => trivial) (by kernel_rfl) (by decide) ?_
              refine (callsIn_wide.2 (mark_r (nu k) W hkm)).mono ?_
              rintro e w' ⟨rfl, hb'⟩
              exact ⟨_, rfl, _, rfl, (fR8.zero hR).trans (hb'.mono (fR8.zero hR).size), rfl⟩
            | 1, hk, hR, hup =>
              obtain rfl := Option.some.inj hk
              obtain rfl := Option.some.inj hdi
              obtain ⟨hbW, hu⟩ := fR8.one hR
              have hx5 : x 5 = .agg (oC (mk (nu k))) := (hup 0 5 rfl rfl).trans hu
              rw [updV_self (show x 6 = _ from hdep 6 (by simp [depF8]) (by decide)), updV_self (show updV x 6 _ 5 = _ from hx5)]
              refine OI_skip rfl rfl (about_none (by intro c h; cases h)) (by intro c h; cases h) (W.setCells g (0 + q * 8) (oC (mk (nu k))).toList) ?_ ?_
              · exact run_storeMid8 37 _ _ g (0 + q * 8) (oC (mk (nu k))) rfl (by kernel_rfl) (by kernel_rfl) W (own_there8 (ownW W hbW) HZL.out q hqn) (by kernel_rfl) (by kernel_rfl)
              · refine ⟨undef, (put_none _ _).trans (put_far _ _ _ (by rw [puts_size]; exact Nat.le_of_ble_eq_true rfl)).symm, W, hbW, ?_⟩
                rw [Nat.zero_add]
            | _ + 2, hk, _, _ => simp at hk
          case don =>
            intro x W u hR hx hlast
            obtain ⟨W1, hb1, rfl⟩ := fR8.two hR
            have hst := (HS2.out.belowW hb1).store sep hlt HE.out q hqn (mk (nu k))
            simp only [if_true] at hst
            have e : (fun j => if j = k then Z.set q (mk (nu k)) else if j = k then Z else Y j) = (fun j => if j = k then Z.set q (mk (nu k)) else Y j) := by
              funext j
              by_cases hj : j = k
              · rw [if_pos hj, if_pos hj]
              · rw [if_neg hj, if_neg hj, if_neg hj]
            rw [e] at hst
            have HS5 := veil hst
            have hgr : W1.grownBy (W1.setCells g (q * 8) (oC (mk (nu k))).toList) (some g) := cells_grown _ _ _ _
            have HKP5 := veil (keep_grown (keep_below HKP2.out hb1) hgr (fun b e => by injection e with e; subst e; exact .inl ⟨k, hlt, by rw [HE.out]; rfl⟩))
            have hs1 := hb1.size
            have hs2 := hgr.size
            have kp : ∀ j v, wr.cell? ⟨wo.heap.size, j, none⟩ = some v → (W1.setCells g (q * 8) (oC (mk (nu k))).toList).cell? ⟨wo.heap.size, j, none⟩ = some v := fun j v hv => hgr.cell ((World.cell?_of_block (w := wr) (a := ⟨wo.heap.size, j, none⟩) (hb1.block wo.heap.size hsq)).trans hv) (by show some wo.heap.size ≠ _; intro e; injection e with e; omega)
            have r0 := kp 0 _ hp0
            have r2 := kp 2 _ hp2
            have hsz : wo.heap.size < (W1.setCells g (q * 8) (oC (mk (nu k))).toList).heap.size := by omega
            generalize W1.setCells g (q * 8) (oC (mk (nu k))).toList = W2 at *
            have z0 := hx 0 (by decide) (by decide)
            have z1 := hx 1 (by decide) (by decide)
            have z2 := hx 2 (by decide) (by decide)
            have z3 := hx 3 (by decide) (by decide)
            have z4 := hx 4 (by decide) (by decide)
            have z6 := hx 6 (by decide) (by decide)
            simp only [putsV, z0, z1, z2, z3, z4, z6, valF8, Act.put, List.setIfInBounds_toArray, List.set_cons_succ, List.set_cons_zero, Nat.reduceAdd]
            clear z0 z1 z2 z3 z4 z6 hx hR hst kp hgr hb1 hlast
            gi_wp2_with fail
            go_roundw
            case rel => exact ⟨q + 1, Z.set q (mk (nu k)), by omega, by go_num, HS5.out, by rw [List.length_set]; exact HZL.out, set_step Z q (N k) (mk (nu k)) HZL.out hqn HZ.out, r0, r2, hsz, HKP5.out⟩
            case measure => simp [intOf]; omega
        · have hqe : q = N k := by omega
          have HZF : Hid (Z = List.replicate (N k) (mk (nu k))) := by
            rw [hqe, List.take_of_length_le (by omega)] at hZ
            exact hZ
          clear st2 hZ hZl HA
          gi_wp2_with fail
          go_roundw
          case rel =>
            refine ⟨k + 1, _, by omega, by go_num, HS2.out, fun j hj => ?_, HKP2.out⟩
            by_cases hjk : j = k
            · simp only [hjk, if_true]; exact HZF.out
            · simp only [hjk, if_false]; exact HY.out j (by omega)
          case measure => simp [intOf]; omega
    · have hkm : k = m := by omega
      subst hkm
      have HSR := veil st
      have HY := veil hY
      clear st hY
      gi_wp2_with fail
      go_end0
      have hst := HSR.out
      refine ⟨rfl, ⟨hst.sS, hst.bB, hst.bh, hst.book, hst.l, hst.g, hst.n, hst.fz, fun i hi => ?_, hst.below⟩, HKP.out⟩
      have := hst.rows i hi
      rw [HY.out i hi] at this
      exact this
end Go.Proofs.YtimhbjlmpojhoaaGreatDoor.Bf

/-! What a Book of lists of ranges does to memory: what is put behind each list. Written by mkbook8b.py out of AeBook.lean. -/
namespace Go.Proofs.YtimhbjlmpojhoaaGreatDoor.Bf
open Go Go.RowKit
open Go.Proofs.YtimhbjlmpojhoaaGreatDoor.Bq (Sep OwnB own_keepP below_keepP keep_grown keep_below run_append_two wpList_append_two run_cellB run_lenB run_storeMid8 run_lssI8)

theorem Tryz.infoFrameB : (Tryz.prog.info? 37).map (fun i => (i.zero, i.size, i.bytes)) = some (some (.agg #[.int .u8 0, .int .u64 0, .int .u64 0, .int .u64 0, .int .u64 0, .bool false, .slice none 0 0, .slice none 0 0]), 8, 96) := by kernel_rfl

set_option maxRecDepth 20000 in
set_option maxHeartbeats 4000000 in
theorem bk_grow_any (S B h m cap : Nat) (nu : Nat → Nat) (E : Nat → Value) (N : Nat → Nat) (Lg : Nat → Value) (w0 wF : World) (hnu : ∀ i, i < m → nu i ≤ 5000000) (hm2 : m ≤ 3000000) (hN : ∀ i, i < m → N i ≤ 5000000) (hLg : ∀ i, i < m → Lg i = .slice none 0 0) (sep : Sep S B h m E) (st : St S B h m cap nu E N Lg (fun i => List.replicate (N i) (mk (nu i))) w0 wF) :
    Calls Tryz.prog 51 #[.pointer (some ⟨B, 0, none⟩)] wF fun e w' => e = .returned (.tuple #[]) ∧ ∃ Lg', St S B h m cap nu E N Lg' (fun i => List.replicate (N i) (mk (nu i))) w0 w' ∧ Gr S B h m m nu E N Lg' w' ∧ KeepP (fun b => Bq.OwnB m E b ∨ b = h) wF w' ∧ ∀ j, j < m → ∀ b, (Lg' j).ownBlock = some b → Bq.OwnB m E b ∨ wF.heap.size ≤ b := by
  obtain ⟨i0, hi, hz0, hz1, hz2⟩ := info_parts Tryz.infoFrameB
  have hc := st.book
  have HST := veil st
  clear st
  go_enter Tryz.func51, Tryz.ntmps51
  go_wp2
  go_loopw [2] (fun i wr => ∃ (k : Nat) (L : Nat → Value), k ≤ m ∧ i = .int .i64 k ∧ St S B h m cap nu E N L (fun i => List.replicate (N i) (mk (nu i))) w0 wr ∧ Gr S B h m k nu E N L wr ∧ (∀ j, k ≤ j → j < m → L j = .slice none 0 0) ∧ KeepP (fun b => Bq.OwnB m E b ∨ b = h) wF wr ∧ ∀ j, j < k → ∀ b, (L j).ownBlock = some b → Bq.OwnB m E b ∨ wF.heap.size ≤ b) (fun i _ => m - (intOf i).toNat)
  case atStart => exact ⟨0, Lg, Nat.zero_le _, rfl, HST.out, ⟨fun j hj => absurd hj (Nat.not_lt_zero _), fun j hj => absurd hj (Nat.not_lt_zero _), fun j hj => absurd hj (Nat.not_lt_zero _), fun j i hj => absurd hj (Nat.not_lt_zero _)⟩, fun j _ hj => hLg j hj, KeepP.refl _ _, fun j hj => absurd hj (Nat.not_lt_zero _)⟩
  case round =>
    obtain ⟨k, L, hk, rfl, st, gr, hnil, hkp, hlb⟩ := hrel
    have HKP := veil hkp
    have HLB := veil hlb
    clear hkp hlb
    have hcb := st.book
    by_cases hlt : k < m
    · have c0 := st.l k hlt
      have c1 := st.g k hlt
      have c2 := st.n k hlt
      have hNk := hN k hlt
      have hnk := hnu k hlt
      have HSR : Hid (St S B h m cap nu E N L (fun i => List.replicate (N i) (mk (nu i))) w0 wr) := st
      have HGR : Hid (Gr S B h m k nu E N L wr) := gr
      have HNL : Hid (∀ j, k ≤ j → j < m → L j = .slice none 0 0) := hnil
      rw [hnil k (Nat.le_refl _) hlt] at c1
      have hbh := st.bh
      obtain ⟨ao, c, hE⟩ : ∃ ao c, E k = .slice ao (N k) c := by
        rcases bookOwn_shape (st.rows k hlt) with ⟨h1, h2⟩ | ⟨g, c, h1, _⟩
        · exact ⟨none, 0, by rw [h1, h2]⟩
        · exact ⟨some ⟨g, 0, none⟩, c, h1⟩
      have HE : Hid (E k = .slice ao (N k) c) := hE
      rw [hE] at c0
      clear st gr hnil hE
      go_wp2_with fail
      obtain ⟨wo, rfl⟩ : ∃ wo : World, wo = wr := ⟨_, rfl⟩
      have HA := HSR.out.alloc (.cells #[.slice ao (N k) c, .slice none 0 0, .int .i64 (nu k : Int)] 93)
      have HG := HGR.out.grown (World.grownBy_alloc wo (.cells #[.slice ao (N k) c, .slice none 0 0, .int .i64 (nu k : Int)] 93) none) (fun j hj e => by
        rcases (HGR.out.rows j hj).2 with ⟨_, h0⟩ | ⟨g2, c2, _, h2, _⟩
        · omega
        · rw [h2] at e; cases e)
      have HSz : Hid (wo.heap.size + 1 = (wo.alloc (.cells #[.slice ao (N k) c, .slice none 0 0, .int .i64 (nu k : Int)] 93)).heap.size) := by show _ = _; simp
      go_loopw [4, 5] (fun t i wq => ∃ (q : Nat) (ao3 : Option Addr) (c3 : Nat), q ≤ 40 ∧ i = .int .i64 q ∧ t = .slice ao3 (N k + q) c3 ∧ St S B h m cap nu E N L (fun i => List.replicate (N i) (mk (nu i))) w0 wq ∧ Gr S B h m k nu E N L wq ∧
          ((.slice ao3 (N k + q) c3 = E k ∧ q = 0) ∨ (∃ g1 c1, Value.slice ao3 (N k + q) c3 = .slice (some ⟨g1, 0, none⟩) (N k + q) c1 ∧ ((∃ n1, E k = .slice (some ⟨g1, 0, none⟩) n1 c1) ∨ wo.heap.size + 1 ≤ g1))) ∧
          wq.ownsRow S 37 8 (.slice ao3 (N k + q) c3) (N k + q) (vo (List.replicate (N k + q) (mk (nu k)))) ∧ wo.heap.size + 1 ≤ wq.heap.size ∧ wq.cell? ⟨wo.heap.size, 2, none⟩ = some (.int .i64 (nu k : Int)) ∧ KeepP (fun b => Bq.OwnB m E b ∨ b = h) wF wq) (fun _ i _ => 40 - (intOf i).toNat)
      case atStart =>
        refine ⟨0, ao, c, Nat.zero_le _, rfl, rfl, HA, HG, .inl ⟨HE.out.symm, rfl⟩, ?_, Nat.le_of_eq HSz.out, by simp, keep_grown HKP.out (World.grownBy_alloc _ _ none) (fun b e => by cases e)⟩
        have := HA.rows k hlt
        rw [HE.out] at this
        exact this
      case round =>
        obtain ⟨q, ao3, c3, hq, rfl, rfl, st2, gr2, hsh, hown, hsz, hp2, hkp2⟩ := hrel
        have HKP2 := veil hkp2
        clear hkp2
        have HS2 : Hid (St S B h m cap nu E N L (fun i => List.replicate (N i) (mk (nu i))) w0 wr) := st2
        have HG2 : Hid (Gr S B h m k nu E N L wr) := gr2
        have HSH : Hid ((.slice ao3 (N k + q) c3 = E k ∧ q = 0) ∨ (∃ g1 c1, Value.slice ao3 (N k + q) c3 = .slice (some ⟨g1, 0, none⟩) (N k + q) c1 ∧ ((∃ n1, E k = .slice (some ⟨g1, 0, none⟩) n1 c1) ∨ wo.heap.size + 1 ≤ g1))) := hsh
        have HOW : Hid (wr.ownsRow S 37 8 (.slice ao3 (N k + q) c3) (N k + q) (vo (List.replicate (N k + q) (mk (nu k))))) := hown
        have hSz2 := st2.sS
        have hbB2 := st2.bB
        clear st2 gr2 hsh hown HA HG HSz
        by_cases hq40 : q < 40
        · go_wp2_with fail
          refine (mark_l (nu k) _ hnk).mono ?_
          rintro e9 w9 ⟨rfl, hb9⟩
          have S9 := HS2.out.belowW hb9
          have G9 : Gr S B h m k nu E N L w9 := HG2.out.grown (row := none) ⟨hb9.os, hb9.tape, hb9.output, hb9.size, fun b hb _ => hb9.block b hb⟩ (fun j hj e => by
            rcases (HG2.out.rows j hj).2 with ⟨_, h0⟩ | ⟨g2, c2, _, h2, _⟩
            · omega
            · rw [h2] at e; cases e)
          have O9 : w9.ownsRow S 37 8 (.slice ao3 (N k + q) c3) (N k + q) (vo (List.replicate (N k + q) (mk (nu k)))) := HOW.out.kept (row := none) ⟨hb9.os, hb9.tape, hb9.output, hb9.size, fun b hb _ => hb9.block b hb⟩ (by
            by_cases h0 : (Value.slice ao3 (N k + q) c3).ownBlock = none
            · exact .inl h0
            · exact .inr h0)
          have hp9 : w9.cell? ⟨wo.heap.size, 2, none⟩ = some (.int .i64 (nu k : Int)) := (World.cell?_of_block (w := wr) (a := ⟨wo.heap.size, 2, none⟩) (hb9.block wo.heap.size (by omega))).trans hp2
          have hsz9 := hb9.size
          have HKP9 := veil (keep_below HKP2.out hb9)
          have HS9 := veil S9
          have HG9 := veil G9
          have HO9 := veil O9
          clear hb9 S9 G9 O9
          go_wp2_with (at_builtin; refine wpList_append_two _ rfl _ _ 22 rfl S 37 i0 (.agg #[.int .u8 0, .int .u64 0, .int .u64 0, .int .u64 0, .int .u64 0, .bool false, .slice none 0 0, .slice none 0 0]) 8 96 Tryz.underlying22 hi hz0 hz1 hz2 rfl (by decide) _ _ _ rfl (HO9.out.alloc _) ⟨w9.heap.size, 0, none⟩ 1 1 (vo [mk (nu k)]) rfl rfl (by exact World.news_of_block (cs := #[mk (nu k) 0, mk (nu k) 1, mk (nu k) 2, mk (nu k) 3, mk (nu k) 4, mk (nu k) 5, mk (nu k) 6, mk (nu k) 7]) (fr := (0, 0)) (heap_alloc_new w9 _)) (by simp [vo, mk, Value.oneCell']) (by decide) (by unfold maxLen; omega) (by omega) (by simp; omega) ?_; intro g1 c1 w1 hown1 hat1)
          have hne1 : ∀ n1, E k ≠ .slice (some ⟨wo.heap.size, 0, none⟩) n1 c1 := fun n1 hE1 => by
            have := (HSR.out.rows k hlt).lt wo.heap.size (by rw [hE1]; rfl)
            omega
          obtain ⟨st3, gr3, hpl, how3, hsz3, hcell3⟩ := grow_step (H := wo.heap.size + 1) hlt sep (HS9.out.alloc (.cells #[mk (nu k) 0, mk (nu k) 1, mk (nu k) 2, mk (nu k) 3, mk (nu k) 4, mk (nu k) 5, mk (nu k) 6, mk (nu k) 7] 37)) (HG9.out.grown (World.grownBy_alloc w9 (.cells #[mk (nu k) 0, mk (nu k) 1, mk (nu k) 2, mk (nu k) 3, mk (nu k) 4, mk (nu k) 5, mk (nu k) 6, mk (nu k) 7] 37) none) (fun j hj e => by
            rcases (HG9.out.rows j hj).2 with ⟨_, h0⟩ | ⟨g2, c2, _, h2, _⟩
            · omega
            · rw [h2] at e; cases e)) HSH.out (by simp; omega) (by have := HSR.out.bB; omega) (by omega) (fun i hi b hb => by have := (HSR.out.rows i hi).lt b hb; omega) (fun j hj b hb => by have := (HGR.out.rows j hj).lt b hb; omega) hown1 hat1
          have hp3 : w1.cell? ⟨wo.heap.size, 2, none⟩ = some (.int .i64 (nu k : Int)) := by
            rw [hcell3 ⟨wo.heap.size, 2, none⟩ (Nat.lt_succ_self _) hne1]
            exact (World.cell?_alloc_old _ _ _ (by show wo.heap.size ≠ _; omega)).trans hp9
          have HKP4 := veil (show KeepP (fun b => Bq.OwnB m E b ∨ b = h) wF w1 by
            have ka := keep_grown HKP9.out (World.grownBy_alloc w9 (.cells #[mk (nu k) 0, mk (nu k) 1, mk (nu k) 2, mk (nu k) 3, mk (nu k) 4, mk (nu k) 5, mk (nu k) 6, mk (nu k) 7] 37) none) (fun b e => by cases e)
            rcases hat1 with ⟨_, hg⟩ | ⟨_, hg⟩
            · refine keep_grown ka hg (fun b e => ?_)
              injection e with e
              subst e
              rcases hpl with ⟨n1, h1⟩ | h1
              · exact .inl (.inl ⟨k, hlt, by rw [h1]; rfl⟩)
              · exact .inr (by have := HKP.out.size; omega)
            · exact keep_grown ka hg (fun b e => by cases e))
          clear hown1 hat1 hne1 hcell3
          have HS3 : Hid (St S B h m cap nu E N L (fun i => List.replicate (N i) (mk (nu i))) w0 w1) := st3
          have HG3 : Hid (Gr S B h m k nu E N L w1) := gr3
          have HO3 : Hid (w1.ownsRow S 37 8 (.slice (some ⟨g1, 0, none⟩) (N k + (q + 1)) c1) (N k + (q + 1)) (vo (List.replicate (N k + (q + 1)) (mk (nu k))))) := how3
          have HPL : Hid ((∃ n1, E k = .slice (some ⟨g1, 0, none⟩) n1 c1) ∨ wo.heap.size + 1 ≤ g1) := hpl
          clear st3 gr3 how3 hpl
          go_wp2_with fail
          go_roundw
          case rel => exact ⟨q + 1, _, c1, by omega, by go_num, rfl, HS3.out, HG3.out, .inr ⟨g1, c1, rfl, HPL.out⟩, HO3.out, hsz3, hp3, HKP4.out⟩
          case measure => simp [intOf]; omega
        · have hqe : q = 40 := by omega
          subst hqe
          have hcb2 := HS2.out.book
          have hg2 : wr.cell? ⟨h, k * 3 + 1, none⟩ = some (.slice none 0 0) := by rw [HS2.out.g k hlt, HNL.out k (Nat.le_refl _) hlt]
          have hfz2 := HS2.out.fz (k * 3 + 1)
          go_wp2_with fail
          go_roundw
          case rel =>
            refine ⟨k + 1, _, by omega, by go_num, HS2.out.lay sep hlt _, ?_, fun j hj hjm => ?_, keep_grown (row := some h) HKP2.out ⟨rfl, rfl, rfl, by simp, fun b _ hb => Below.heap_setCell _ _ _ b (fun e => hb (by rw [e]))⟩ (fun b e => by injection e with e; subst e; exact .inl (.inr rfl)), fun j hj b e => ?_⟩
            · have hgr : wr.grownBy (wr.setCell ⟨h, k * 3 + 1, none⟩ (.slice ao3 (N k + 40) c3)) (some h) := ⟨rfl, rfl, rfl, by simp, fun b _ hb => Below.heap_setCell _ _ _ b (fun e => hb (by rw [e]))⟩
              have hlg : ∀ j, j < k + 1 → j ≠ k → j < k := fun j h1 h2 => by omega
              obtain ⟨gg, cc, hgg⟩ : ∃ gg cc, Value.slice ao3 (N k + 40) c3 = .slice (some ⟨gg, 0, none⟩) (N k + 40) cc := by
                rcases bookOwn_shape HOW.out with ⟨_, h0⟩ | ⟨gg, cc, h1, _⟩
                · omega
                · exact ⟨gg, cc, h1⟩
              have hplace : (∃ n1, E k = .slice (some ⟨gg, 0, none⟩) n1 cc) ∨ wo.heap.size + 1 ≤ gg := by
                rcases HSH.out with ⟨_, h0⟩ | ⟨g1, c1, h1, h2⟩
                · omega
                · rw [hgg] at h1
                  injection h1 with e1 e2 e3
                  injection e1 with e1
                  injection e1 with e1
                  subst e1 e3
                  exact h2
              have hob : ∀ b, b < wo.heap.size + 1 → (∀ n1, E k ≠ .slice (some ⟨b, 0, none⟩) n1 cc) → (Value.slice ao3 (N k + 40) c3).ownBlock ≠ some b := by
                intro b hb hne e
                rw [hgg] at e
                injection e with e
                subst e
                rcases hplace with ⟨n1, h1⟩ | h1
                · exact hne n1 h1
                · have h2 : gg < wo.heap.size + 1 := hb
                  omega
              have hkB := hob B (by have := HSR.out.bB; omega) (fun n1 hE => sep.eB k hlt (by rw [hE]; rfl))
              have hkh := hob h (by omega) (fun n1 hE => sep.eh k hlt (by rw [hE]; rfl))
              refine ⟨fun j hj => ?_, fun j hj => ?_, fun j hj => ?_, fun j i hj hi hij => ?_⟩
              · by_cases hjk : j = k
                · subst hjk; rw [if_pos rfl]; exact HOW.out.kept hgr (.inr hkh)
                · rw [if_neg hjk]; exact (HG2.out.rows j (hlg j hj hjk)).kept hgr (.inr (HG2.out.nh j (hlg j hj hjk)))
              · by_cases hjk : j = k
                · subst hjk; rw [if_pos rfl]; exact hkB
                · rw [if_neg hjk]; exact HG2.out.nB j (hlg j hj hjk)
              · by_cases hjk : j = k
                · subst hjk; rw [if_pos rfl]; exact hkh
                · rw [if_neg hjk]; exact HG2.out.nh j (hlg j hj hjk)
              · by_cases hjk : j = k
                · subst hjk
                  rw [if_pos rfl]
                  intro e
                  cases hEi : (E i).ownBlock with
                  | none => rw [hEi, hgg] at e; cases e
                  | some b =>
                    rw [hEi] at e
                    refine hob b (by have := (HSR.out.rows i hi).lt b hEi; omega) (fun n1 hE => ?_) e
                    rcases sep.ee i j hi hlt hij with h1 | h1
                    · rw [hEi] at h1; cases h1
                    · exact h1 (by rw [hEi, hE]; rfl)
                · rw [if_neg hjk]; exact HG2.out.ne j i (hlg j hj hjk) hi hij
            · rw [if_neg (by omega)]; exact HNL.out j (by omega) hjm
            · by_cases hjk : j = k
              · rw [if_pos hjk] at e
                rcases HSH.out with ⟨_, h0⟩ | ⟨g1, c1, h1, h2⟩
                · omega
                · rw [h1] at e
                  injection e with e
                  subst e
                  rcases h2 with ⟨n1, h2⟩ | h2
                  · exact .inl ⟨k, hlt, by rw [h2]; rfl⟩
                  · exact .inr (by have := HKP.out.size; have h3 : wo.heap.size + 1 ≤ g1 := h2; show wF.heap.size ≤ g1; omega)
              · rw [if_neg hjk] at e
                exact HLB.out j (by omega) b e
          case measure => simp [intOf]; omega
    · have hkm : k = m := by omega
      subst hkm
      have HSR : Hid (St S B h k cap nu E N L (fun i => List.replicate (N i) (mk (nu i))) w0 wr) := st
      have HGR : Hid (Gr S B h k k nu E N L wr) := gr
      clear st gr hnil
      go_wp2_with fail
      go_end0
      exact ⟨rfl, L, HSR.out, HGR.out, HKP.out, HLB.out⟩
end Go.Proofs.YtimhbjlmpojhoaaGreatDoor.Bf
