/-
  A Book of several kinds: its lists of numbers: what is put behind them, and the look. Written by mkbkn.py out of the texts for bytes.
-/
import Derived.Test.YtohoieleakieeaaGreatDoorGlBkNuF
namespace Go.Proofs.YtohoieleakieeaaGreatDoor.Bn
open Go Go.RowKit
open Go.Proofs.YtohoieleakieeaaGreatDoor.Bq (OwnB keep_grown keep_below own_keepP below_keepP Sep run_append_two wpList_append_two)

theorem Tryz.infoNumberB : (Tryz.prog.info? 23).map (fun i => (i.zero, i.size, i.bytes)) = some (some (.int .u64 0), 1, 8) := by kernel_rfl

/-- A beginning of a row is owned as the row is. -/
theorem own_prefix {W : World} {S g c n k : Nat} {xs : List Value} (h : W.ownsRow S 23 1 (.slice (some ⟨g, 0, none⟩) (n + k) c) (n + k) xs) : W.ownsRow S 23 1 (.slice (some ⟨g, 0, none⟩) n c) n (xs.take n) := by
  refine ⟨by rw [List.length_take, h.1]; omega, ?_⟩
  rcases h.2 with ⟨h1, _⟩ | ⟨g', c', cur, hv, hb, hg, hn, hc, hs, ht⟩
  · cases h1
  · cases hv
    refine .inr ⟨g, c, cur, rfl, hb, hg, by omega, hc, hs, ?_⟩
    rw [← ht, List.take_take]
    congr 1
    omega

/-- Old memory but one list's row is as it was: so is the book. -/
theorem St.grown_at {S B h m cap : Nat} {nu : Nat → Nat} {E : Nat → Value} {N : Nat → Nat} {Lg : Nat → Value} {X : Nat → List Value} {w0 W W' : World} {row : Option Nat} (st : St S B h m cap nu E N Lg X w0 W) (hg : W.grownBy W' row) (k : Nat)
    (hS : ∀ k, row = some k → S ≤ k) (hB : row ≠ some B) (hh : row ≠ some h) (he : ∀ i, i < m → i ≠ k → (E i).ownBlock = none ∨ (E i).ownBlock ≠ row) (hk : k < m → W'.ownsRow S 23 1 (E k) (N k) (X k)) : St S B h m cap nu E N Lg X w0 W' where
  sS := Nat.le_trans st.sS hg.size
  bB := Nat.lt_of_lt_of_le st.bB hg.size
  bh := Nat.lt_of_lt_of_le st.bh hg.size
  book := hg.cell st.book (fun e => hB e.symm)
  l := fun i hi => hg.cell (st.l i hi) (fun e => hh e.symm)
  g := fun i hi => hg.cell (st.g i hi) (fun e => hh e.symm)
  n := fun i hi => hg.cell (st.n i hi) (fun e => hh e.symm)
  fz := fun j => (World.frozen?_of_block (w := W) (a := ⟨h, j, none⟩) (hg.block h st.bh (fun e => hh e.symm))).trans (st.fz j)
  rows := fun i hi => by
    by_cases hik : i = k
    · rw [hik] at hi ⊢; exact hk hi
    · exact (st.rows i hi).kept hg (he i hi hik)
  below := st.below.grown hg st.sS hS

/-- The longer list is kept. -/
theorem St.lay {S B h m cap : Nat} {nu : Nat → Nat} {E : Nat → Value} {N : Nat → Nat} {Lg : Nat → Value} {X : Nat → List Value} {w0 W : World} (st : St S B h m cap nu E N Lg X w0 W) (sep : Sep S B h m E) {k : Nat} (hk : k < m) (u : Value) :
    St S B h m cap nu E N (fun j => if j = k then u else Lg j) X w0 (W.setCell ⟨h, k * 3 + 1, none⟩ u) := by
  have hgr : W.grownBy (W.setCell ⟨h, k * 3 + 1, none⟩ u) (some h) := ⟨rfl, rfl, rfl, by simp, fun b _ hb => Below.heap_setCell _ _ _ b (fun e => hb (by rw [e]))⟩
  have hBh : some B ≠ some h := fun e => sep.Bh (by injection e)
  refine ⟨Nat.le_trans st.sS hgr.size, Nat.lt_of_lt_of_le st.bB hgr.size, Nat.lt_of_lt_of_le st.bh hgr.size, hgr.cell st.book hBh, fun j hj => ?_, fun j hj => ?_, fun j hj => ?_, fun j => ?_, fun j hj => (st.rows j hj).kept hgr (.inr (sep.eh j hj)), st.below.setCell (p := ⟨h, k * 3 + 1, none⟩) sep.Sh u⟩
  · rw [World.cell?_setCell_other _ _ _ _ (by intro e; injection e; omega)]
    exact st.l j hj
  · by_cases hjk : j = k
    · subst hjk
      rw [if_pos rfl]
      exact World.cell?_setCell_same _ _ _ (st.g j hj)
    · rw [if_neg hjk, World.cell?_setCell_other _ _ _ _ (by intro e; injection e; omega)]
      exact st.g j hj
  · rw [World.cell?_setCell_other _ _ _ _ (by intro e; injection e; omega)]
    exact st.n j hj
  · rw [World.frozen?_setCell]
    exact st.fz j

/-- Each of the first k lists has its longer one, apart from all else. -/
structure Gr (S B h m k : Nat) (nu : Nat → Nat) (E : Nat → Value) (N : Nat → Nat) (Lg : Nat → Value) (W : World) : Prop where
  rows : ∀ j, j < k → W.ownsRow S 23 1 (Lg j) (N j + 40) (List.replicate (N j + 40) (mark (nu j)))
  nB : ∀ j, j < k → (Lg j).ownBlock ≠ some B
  nh : ∀ j, j < k → (Lg j).ownBlock ≠ some h
  ne : ∀ j i, j < k → i < m → i ≠ j → (Lg j).ownBlock ≠ (E i).ownBlock

theorem Gr.grown {S B h m k : Nat} {nu : Nat → Nat} {E : Nat → Value} {N : Nat → Nat} {Lg : Nat → Value} {W W' : World} {row : Option Nat} (gr : Gr S B h m k nu E N Lg W) (hg : W.grownBy W' row) (hr : ∀ j, j < k → (Lg j).ownBlock ≠ row) : Gr S B h m k nu E N Lg W' :=
  ⟨fun j hj => (gr.rows j hj).kept hg (.inr (hr j hj)), gr.nB, gr.nh, gr.ne⟩

/-- What one more element behind a list leaves. -/
theorem grow_step {S B h m cap k q H : Nat} {nu : Nat → Nat} {E : Nat → Value} {N : Nat → Nat} {Lg : Nat → Value} {w0 W W' : World} {v : Value} {g c : Nat} (hk : k < m) (sep : Sep S B h m E) (st : St S B h m cap nu E N Lg (fun i => List.replicate (N i) (mark (nu i))) w0 W) (gr : Gr S B h m k nu E N Lg W)
    (hv : (v = E k ∧ q = 0) ∨ (∃ g1 c1, v = .slice (some ⟨g1, 0, none⟩) (N k + q) c1 ∧ ((∃ n1, E k = .slice (some ⟨g1, 0, none⟩) n1 c1) ∨ H ≤ g1)))
    (hH : H ≤ W.heap.size) (hHB : B < H) (hHh : h < H) (hHE : ∀ i, i < m → ∀ b, (E i).ownBlock = some b → b < H) (hHL : ∀ j, j < k → ∀ b, (Lg j).ownBlock = some b → b < H)
    (hown' : W'.ownsRow S 23 1 (.slice (some ⟨g, 0, none⟩) (N k + q + 1) c) (N k + q + 1) (List.replicate (N k + q) (mark (nu k)) ++ [mark (nu k)]))
    (hat : (v = .slice (some ⟨g, 0, none⟩) (N k + q) c ∧ W.grownBy W' (some g)) ∨ (g = W.heap.size ∧ W.grownBy W' none)) :
    St S B h m cap nu E N Lg (fun i => List.replicate (N i) (mark (nu i))) w0 W' ∧ Gr S B h m k nu E N Lg W' ∧
      ((∃ n1, E k = .slice (some ⟨g, 0, none⟩) n1 c) ∨ H ≤ g) ∧
      W'.ownsRow S 23 1 (.slice (some ⟨g, 0, none⟩) (N k + (q + 1)) c) (N k + (q + 1)) (List.replicate (N k + (q + 1)) (mark (nu k))) ∧ H ≤ W'.heap.size ∧ (∀ a : Addr, a.block < H → (∀ n1, E k ≠ .slice (some ⟨a.block, 0, none⟩) n1 c) → W'.cell? a = W.cell? a) := by
  have ho : W'.ownsRow S 23 1 (.slice (some ⟨g, 0, none⟩) (N k + (q + 1)) c) (N k + (q + 1)) (List.replicate (N k + (q + 1)) (mark (nu k))) := by
    have e : List.replicate (N k + (q + 1)) (mark (nu k)) = List.replicate (N k + q) (mark (nu k)) ++ [mark (nu k)] := by
      rw [show N k + (q + 1) = (N k + q) + 1 by omega, List.replicate_succ']
    rw [e]
    exact hown'
  have hSg : S ≤ g := (ho.lt g rfl).1
  rcases hat with ⟨hvg, hgr⟩ | ⟨hgn, hgr⟩
  · have hplace : (∃ n1, E k = .slice (some ⟨g, 0, none⟩) n1 c) ∨ H ≤ g := by
      rcases hv with ⟨h1, h2⟩ | ⟨g1, c1, h1, h2⟩
      · left
        exact ⟨_, h1.symm.trans hvg⟩
      · rw [hvg] at h1
        injection h1 with e1 e2 e3
        injection e1 with e1
        injection e1 with e1
        subst e1 e3
        exact h2
    have hob : ∀ b, b < H → (∀ n1, E k ≠ .slice (some ⟨b, 0, none⟩) n1 c) → b ≠ g := by
      intro b hb hne e
      subst e
      rcases hplace with ⟨n1, h1⟩ | h1
      · exact hne n1 h1
      · omega
    have hgB : some g ≠ some B := by
      intro e; injection e with e
      refine hob B hHB (fun n1 hE => sep.eB k hk (by rw [hE]; rfl)) e.symm
    have hgh : some g ≠ some h := by
      intro e; injection e with e
      refine hob h hHh (fun n1 hE => sep.eh k hk (by rw [hE]; rfl)) e.symm
    refine ⟨st.grown_at hgr k (fun b e => by injection e with e; omega) hgB hgh (fun i hi hik => ?_) (fun _ => ?_), gr.grown hgr (fun j hj e => ?_), hplace, ho, Nat.le_trans hH hgr.size, fun a ha hne => ?_⟩
    · cases hEi : (E i).ownBlock with
      | none => exact .inl rfl
      | some b =>
        right
        intro e
        injection e with e
        subst e
        refine hob b (hHE i hi b hEi) (fun n1 hE => ?_) rfl
        rcases sep.ee i k hi hk hik with h1 | h1
        · rw [hEi] at h1; cases h1
        · exact h1 (by rw [hEi, hE]; rfl)
    · rcases hplace with ⟨n1, h1⟩ | h1
      · have hn1 : n1 = N k := by
          rcases bookOwn_shape (st.rows k hk) with ⟨h2, _⟩ | ⟨g2, c2, h2, _⟩
          · rw [h1] at h2; cases h2
          · rw [h1] at h2; injection h2
        rw [h1, hn1]
        have := own_prefix ho
        rw [List.take_replicate, Nat.min_eq_left (by omega)] at this
        exact this
      · refine (st.rows k hk).kept hgr ?_
        cases hEk : (E k).ownBlock with
        | none => exact .inl rfl
        | some b => right; intro e; injection e with e; have := hHE k hk b hEk; omega
    · cases hLj : (Lg j).ownBlock with
      | none => rw [hLj] at e; cases e
      | some b =>
        rw [hLj] at e; injection e with e; subst e
        refine hob b (hHL j hj b hLj) (fun n1 hE => ?_) rfl
        exact gr.ne j k hj hk (by omega) (by rw [hLj, hE]; rfl)
    · exact World.cell?_of_block (hgr.block a.block (by omega) (by intro e; injection e with e; exact hob a.block ha hne e))
  · refine ⟨st.grown hgr (fun b e => by cases e) (by simp) (by simp) (fun i _ => ?_), gr.grown hgr (fun j hj e => ?_), .inr (by omega), ho, Nat.le_trans hH hgr.size, fun a ha _ => ?_⟩
    · cases hEi : (E i).ownBlock with
      | none => exact .inl rfl
      | some b => right; simp
    · rcases (gr.rows j hj).2 with ⟨_, h0⟩ | ⟨g2, c2, _, h2, _⟩
      · omega
      · rw [h2] at e; cases e
    · exact World.cell?_of_block (hgr.block a.block (by omega) (by simp))

set_option maxRecDepth 20000 in
set_option maxHeartbeats 4000000 in
theorem bk_grow_any (S B h m cap : Nat) (nu : Nat → Nat) (E : Nat → Value) (N : Nat → Nat) (Lg : Nat → Value) (w0 wF : World) (hnu : ∀ i, i < m → nu i ≤ 5000000) (hm2 : m ≤ 3000000) (hN : ∀ i, i < m → N i ≤ 5000000) (hLg : ∀ i, i < m → Lg i = .slice none 0 0) (sep : Sep S B h m E) (st : St S B h m cap nu E N Lg (fun i => List.replicate (N i) (mark (nu i))) w0 wF) :
    Calls Tryz.prog 61 #[.pointer (some ⟨B, 0, none⟩)] wF fun e w' => e = .returned (.tuple #[]) ∧ ∃ Lg', St S B h m cap nu E N Lg' (fun i => List.replicate (N i) (mark (nu i))) w0 w' ∧ Gr S B h m m nu E N Lg' w' ∧ KeepP (fun b => OwnB m E b ∨ b = h) wF w' ∧ ∀ j, j < m → ∀ b, (Lg' j).ownBlock = some b → OwnB m E b ∨ wF.heap.size ≤ b := by
  obtain ⟨i0, hi, hz0, hz1, hz2⟩ := info_parts Tryz.infoNumberB
  have hc := st.book
  have HST := veil st
  clear st
  go_enter Tryz.func61, Tryz.ntmps61
  go_wp2
  go_loopw [2] (fun i wr => ∃ (k : Nat) (L : Nat → Value), k ≤ m ∧ i = .int .i64 k ∧ St S B h m cap nu E N L (fun i => List.replicate (N i) (mark (nu i))) w0 wr ∧ Gr S B h m k nu E N L wr ∧ (∀ j, k ≤ j → j < m → L j = .slice none 0 0) ∧ KeepP (fun b => OwnB m E b ∨ b = h) wF wr ∧ ∀ j, j < k → ∀ b, (L j).ownBlock = some b → OwnB m E b ∨ wF.heap.size ≤ b) (fun i _ => m - (intOf i).toNat)
  case atStart => exact ⟨0, Lg, Nat.zero_le _, rfl, HST.out, ⟨fun j hj => absurd hj (Nat.not_lt_zero _), fun j hj => absurd hj (Nat.not_lt_zero _), fun j hj => absurd hj (Nat.not_lt_zero _), fun j i hj => absurd hj (Nat.not_lt_zero _)⟩, fun j _ hj => hLg j hj, KeepP.refl _ _, fun j hj => absurd hj (Nat.not_lt_zero _)⟩
  case round =>
    obtain ⟨k, L, hk, rfl, st, gr, hnil, hkp, hlb⟩ := hrel
    have HKP := veil hkp
    have HLB := veil hlb
    clear hkp hlb
    have hcb := st.book
    by_cases hlt : k < m
    · have c0 := st.l k hlt
      have c1 := st.g k hlt
      have c2 := st.n k hlt
      have hNk := hN k hlt
      have hnk := hnu k hlt
      have HSR : Hid (St S B h m cap nu E N L (fun i => List.replicate (N i) (mark (nu i))) w0 wr) := st
      have HGR : Hid (Gr S B h m k nu E N L wr) := gr
      have HNL : Hid (∀ j, k ≤ j → j < m → L j = .slice none 0 0) := hnil
      rw [hnil k (Nat.le_refl _) hlt] at c1
      have hbh := st.bh
      obtain ⟨ao, c, hE⟩ : ∃ ao c, E k = .slice ao (N k) c := by
        rcases bookOwn_shape (st.rows k hlt) with ⟨h1, h2⟩ | ⟨g, c, h1, _⟩
        · exact ⟨none, 0, by rw [h1, h2]⟩
        · exact ⟨some ⟨g, 0, none⟩, c, h1⟩
      have HE : Hid (E k = .slice ao (N k) c) := hE
      rw [hE] at c0
      clear st gr hnil hE
      go_wp2_with fail
      obtain ⟨wo, rfl⟩ : ∃ wo : World, wo = wr := ⟨_, rfl⟩
      have HA := HSR.out.alloc (.cells #[.slice ao (N k) c, .slice none 0 0, .int .i64 (nu k : Int)] 102)
      have HG := HGR.out.grown (World.grownBy_alloc wo (.cells #[.slice ao (N k) c, .slice none 0 0, .int .i64 (nu k : Int)] 102) none) (fun j hj e => by
        rcases (HGR.out.rows j hj).2 with ⟨_, h0⟩ | ⟨g2, c2, _, h2, _⟩
        · omega
        · rw [h2] at e; cases e)
      have HSz : Hid (wo.heap.size + 1 = (wo.alloc (.cells #[.slice ao (N k) c, .slice none 0 0, .int .i64 (nu k : Int)] 102)).heap.size) := by show _ = _; simp
      go_loopw [4, 5] (fun t i wq => ∃ (q : Nat) (ao3 : Option Addr) (c3 : Nat), q ≤ 40 ∧ i = .int .i64 q ∧ t = .slice ao3 (N k + q) c3 ∧ St S B h m cap nu E N L (fun i => List.replicate (N i) (mark (nu i))) w0 wq ∧ Gr S B h m k nu E N L wq ∧
          ((.slice ao3 (N k + q) c3 = E k ∧ q = 0) ∨ (∃ g1 c1, Value.slice ao3 (N k + q) c3 = .slice (some ⟨g1, 0, none⟩) (N k + q) c1 ∧ ((∃ n1, E k = .slice (some ⟨g1, 0, none⟩) n1 c1) ∨ wo.heap.size + 1 ≤ g1))) ∧
          wq.ownsRow S 23 1 (.slice ao3 (N k + q) c3) (N k + q) (List.replicate (N k + q) (mark (nu k))) ∧ wo.heap.size + 1 ≤ wq.heap.size ∧ wq.cell? ⟨wo.heap.size, 2, none⟩ = some (.int .i64 (nu k : Int)) ∧ KeepP (fun b => OwnB m E b ∨ b = h) wF wq) (fun _ i _ => 40 - (intOf i).toNat)
      case atStart =>
        refine ⟨0, ao, c, Nat.zero_le _, rfl, rfl, HA, HG, .inl ⟨HE.out.symm, rfl⟩, ?_, Nat.le_of_eq HSz.out, by simp, keep_grown HKP.out (World.grownBy_alloc _ _ none) (fun b e => by cases e)⟩
        have := HA.rows k hlt
        rw [HE.out] at this
        exact this
      case round =>
        obtain ⟨q, ao3, c3, hq, rfl, rfl, st2, gr2, hsh, hown, hsz, hp2, hkp2⟩ := hrel
        have HKP2 := veil hkp2
        clear hkp2
        have HS2 : Hid (St S B h m cap nu E N L (fun i => List.replicate (N i) (mark (nu i))) w0 wr) := st2
        have HG2 : Hid (Gr S B h m k nu E N L wr) := gr2
        have HSH : Hid ((.slice ao3 (N k + q) c3 = E k ∧ q = 0) ∨ (∃ g1 c1, Value.slice ao3 (N k + q) c3 = .slice (some ⟨g1, 0, none⟩) (N k + q) c1 ∧ ((∃ n1, E k = .slice (some ⟨g1, 0, none⟩) n1 c1) ∨ wo.heap.size + 1 ≤ g1))) := hsh
        have HOW : Hid (wr.ownsRow S 23 1 (.slice ao3 (N k + q) c3) (N k + q) (List.replicate (N k + q) (mark (nu k)))) := hown
        have hSz2 := st2.sS
        have hbB2 := st2.bB
        clear st2 gr2 hsh hown HA HG HSz
        by_cases hq40 : q < 40
        · go_wp2_with fail
          refine (mark_any _ _ (by omega) (by omega)).mono ?_
          rintro e9 w9 ⟨rfl, rfl⟩
          go_wp2_with (at_builtin; refine wpList_append_two _ rfl _ _ 49 rfl S 23 i0 (.int .u64 0) 1 8 Tryz.underlying49 hi hz0 hz1 hz2 rfl (by decide) _ _ _ rfl (HOW.out.alloc _) ⟨w9.heap.size, 0, none⟩ 1 1 [mark (nu k)] rfl rfl (cell_one_new _ _ _) (by simp [mark, Value.oneCell']) (by decide) (by unfold maxLen; omega) (by omega) (by simp; omega) ?_; intro g1 c1 w1 hown1 hat1)
          have hne1 : ∀ n1, E k ≠ .slice (some ⟨wo.heap.size, 0, none⟩) n1 c1 := fun n1 hE1 => by
            have := (HSR.out.rows k hlt).lt wo.heap.size (by rw [hE1]; rfl)
            omega
          obtain ⟨st3, gr3, hpl, how3, hsz3, hcell3⟩ := grow_step (H := wo.heap.size + 1) hlt sep (HS2.out.alloc (.cells #[mark (nu k)] 23)) (HG2.out.grown (World.grownBy_alloc w9 (.cells #[mark (nu k)] 23) none) (fun j hj e => by
            rcases (HG2.out.rows j hj).2 with ⟨_, h0⟩ | ⟨g2, c2, _, h2, _⟩
            · omega
            · rw [h2] at e; cases e)) HSH.out (by simp; omega) (by have := HSR.out.bB; omega) (by omega) (fun i hi b hb => by have := (HSR.out.rows i hi).lt b hb; omega) (fun j hj b hb => by have := (HGR.out.rows j hj).lt b hb; omega) hown1 hat1
          have hp3 : w1.cell? ⟨wo.heap.size, 2, none⟩ = some (.int .i64 (nu k : Int)) := by
            rw [hcell3 ⟨wo.heap.size, 2, none⟩ (Nat.lt_succ_self _) hne1]
            exact (World.cell?_alloc_old _ _ _ (by show wo.heap.size ≠ _; omega)).trans hp2
          have HKP4 := veil (show KeepP (fun b => OwnB m E b ∨ b = h) wF w1 by
            have ka := keep_grown HKP2.out (World.grownBy_alloc w9 (.cells #[mark (nu k)] 23) none) (fun b e => by cases e)
            rcases hat1 with ⟨_, hg⟩ | ⟨_, hg⟩
            · refine keep_grown ka hg (fun b e => ?_)
              injection e with e
              subst e
              rcases hpl with ⟨n1, h1⟩ | h1
              · exact .inl (.inl ⟨k, hlt, by rw [h1]; rfl⟩)
              · exact .inr (by have := HKP.out.size; omega)
            · exact keep_grown ka hg (fun b e => by cases e))
          clear hown1 hat1 hne1 hcell3
          have HS3 : Hid (St S B h m cap nu E N L (fun i => List.replicate (N i) (mark (nu i))) w0 w1) := st3
          have HG3 : Hid (Gr S B h m k nu E N L w1) := gr3
          have HO3 : Hid (w1.ownsRow S 23 1 (.slice (some ⟨g1, 0, none⟩) (N k + (q + 1)) c1) (N k + (q + 1)) (List.replicate (N k + (q + 1)) (mark (nu k)))) := how3
          have HPL : Hid ((∃ n1, E k = .slice (some ⟨g1, 0, none⟩) n1 c1) ∨ wo.heap.size + 1 ≤ g1) := hpl
          clear st3 gr3 how3 hpl
          go_wp2_with fail
          go_roundw
          case rel => exact ⟨q + 1, _, c1, by omega, by go_num, rfl, HS3.out, HG3.out, .inr ⟨g1, c1, rfl, HPL.out⟩, HO3.out, hsz3, hp3, HKP4.out⟩
          case measure => simp [intOf]; omega
        · have hqe : q = 40 := by omega
          subst hqe
          have hcb2 := HS2.out.book
          have hg2 : wr.cell? ⟨h, k * 3 + 1, none⟩ = some (.slice none 0 0) := by rw [HS2.out.g k hlt, HNL.out k (Nat.le_refl _) hlt]
          have hfz2 := HS2.out.fz (k * 3 + 1)
          go_wp2_with fail
          go_roundw
          case rel =>
            refine ⟨k + 1, _, by omega, by go_num, HS2.out.lay sep hlt _, ?_, fun j hj hjm => ?_, keep_grown (row := some h) HKP2.out ⟨rfl, rfl, rfl, by simp, fun b _ hb => Below.heap_setCell _ _ _ b (fun e => hb (by rw [e]))⟩ (fun b e => by injection e with e; subst e; exact .inl (.inr rfl)), fun j hj b e => ?_⟩
            · have hgr : wr.grownBy (wr.setCell ⟨h, k * 3 + 1, none⟩ (.slice ao3 (N k + 40) c3)) (some h) := ⟨rfl, rfl, rfl, by simp, fun b _ hb => Below.heap_setCell _ _ _ b (fun e => hb (by rw [e]))⟩
              have hlg : ∀ j, j < k + 1 → j ≠ k → j < k := fun j h1 h2 => by omega
              obtain ⟨gg, cc, hgg⟩ : ∃ gg cc, Value.slice ao3 (N k + 40) c3 = .slice (some ⟨gg, 0, none⟩) (N k + 40) cc := by
                rcases bookOwn_shape HOW.out with ⟨_, h0⟩ | ⟨gg, cc, h1, _⟩
                · omega
                · exact ⟨gg, cc, h1⟩
              have hplace : (∃ n1, E k = .slice (some ⟨gg, 0, none⟩) n1 cc) ∨ wo.heap.size + 1 ≤ gg := by
                rcases HSH.out with ⟨_, h0⟩ | ⟨g1, c1, h1, h2⟩
                · omega
                · rw [hgg] at h1
                  injection h1 with e1 e2 e3
                  injection e1 with e1
                  injection e1 with e1
                  subst e1 e3
                  exact h2
              have hob : ∀ b, b < wo.heap.size + 1 → (∀ n1, E k ≠ .slice (some ⟨b, 0, none⟩) n1 cc) → (Value.slice ao3 (N k + 40) c3).ownBlock ≠ some b := by
                intro b hb hne e
                rw [hgg] at e
                injection e with e
                subst e
                rcases hplace with ⟨n1, h1⟩ | h1
                · exact hne n1 h1
                · have h2 : gg < wo.heap.size + 1 := hb
                  omega
              have hkB := hob B (by have := HSR.out.bB; omega) (fun n1 hE => sep.eB k hlt (by rw [hE]; rfl))
              have hkh := hob h (by omega) (fun n1 hE => sep.eh k hlt (by rw [hE]; rfl))
              refine ⟨fun j hj => ?_, fun j hj => ?_, fun j hj => ?_, fun j i hj hi hij => ?_⟩
              · by_cases hjk : j = k
                · subst hjk; rw [if_pos rfl]; exact HOW.out.kept hgr (.inr hkh)
                · rw [if_neg hjk]; exact (HG2.out.rows j (hlg j hj hjk)).kept hgr (.inr (HG2.out.nh j (hlg j hj hjk)))
              · by_cases hjk : j = k
                · subst hjk; rw [if_pos rfl]; exact hkB
                · rw [if_neg hjk]; exact HG2.out.nB j (hlg j hj hjk)
              · by_cases hjk : j = k
                · subst hjk; rw [if_pos rfl]; exact hkh
                · rw [if_neg hjk]; exact HG2.out.nh j (hlg j hj hjk)
              · by_cases hjk : j = k
                · subst hjk
                  rw [if_pos rfl]
                  intro e
                  cases hEi : (E i).ownBlock with
                  | none => rw [hEi, hgg] at e; cases e
                  | some b =>
                    rw [hEi] at e
                    refine hob b (by have := (HSR.out.rows i hi).lt b hEi; omega) (fun n1 hE => ?_) e
                    rcases sep.ee i j hi hlt hij with h1 | h1
                    · rw [hEi] at h1; cases h1
                    · exact h1 (by rw [hEi, hE]; rfl)
                · rw [if_neg hjk]; exact HG2.out.ne j i (hlg j hj hjk) hi hij
            · rw [if_neg (by omega)]; exact HNL.out j (by omega) hjm
            · by_cases hjk : j = k
              · rw [if_pos hjk] at e
                rcases HSH.out with ⟨_, h0⟩ | ⟨g1, c1, h1, h2⟩
                · omega
                · rw [h1] at e
                  injection e with e
                  subst e
                  rcases h2 with ⟨n1, h2⟩ | h2
                  · exact .inl ⟨k, hlt, by rw [h2]; rfl⟩
                  · exact .inr (by have := HKP.out.size; have h3 : wo.heap.size + 1 ≤ g1 := h2; show wF.heap.size ≤ g1; omega)
              · rw [if_neg hjk] at e
                exact HLB.out j (by omega) b e
          case measure => simp [intOf]; omega
    · have hkm : k = m := by omega
      subst hkm
      have HSR : Hid (St S B h k cap nu E N L (fun i => List.replicate (N i) (mark (nu i))) w0 wr) := st
      have HGR : Hid (Gr S B h k k nu E N L wr) := gr
      clear st gr hnil
      go_wp2_with fail
      go_end0
      exact ⟨rfl, L, HSR.out, HGR.out, HKP.out, HLB.out⟩
set_option maxHeartbeats 400000 in
theorem is_any (n : Int) (w : World) (h0 : 0 ≤ n) (h1 : n ≤ 5000000) :
    Calls Tryz.prog 110 #[.int .u64 (1000 + n), .int .i64 n] w fun e w' => e = .returned (.bool true) ∧ w' = w := by
  go_enter Tryz.func110, Tryz.ntmps110
  go_wp2
  go_ret
  exact ⟨by simp, rfl⟩

theorem cell_rep {W : World} {S g c n q : Nat} {u : Value} (h : W.ownsRow S 23 1 (.slice (some ⟨g, 0, none⟩) n c) n (List.replicate n u)) (hq : q < n) : W.cell? ⟨g, q, none⟩ = some u := by
  rw [h.cellAt q (by simpa using hq), List.getElem?_replicate, if_pos hq]

theorem World.grownBy.drewN {a b : World} {row : Option Nat} (h : a.grownBy b row) (n : Nat) : a.grownBy (b.drewN n) row := ⟨h.os, h.tape, h.output, h.size, h.block⟩

set_option maxRecDepth 20000 in
set_option maxHeartbeats 4000000 in
theorem look_any (S B h m cap : Nat) (nu : Nat → Nat) (E : Nat → Value) (N : Nat → Nat) (Lg : Nat → Value) (w0 W : World) (hnu : ∀ i, i < m → nu i ≤ 5000000) (hm2 : m ≤ 3000000) (hN : ∀ i, i < m → N i ≤ 5000000) (st : St S B h m cap nu E N Lg (fun i => List.replicate (N i) (mark (nu i))) w0 W) (gr : Gr S B h m m nu E N Lg W) :
    Calls Tryz.prog 73 #[.pointer (some ⟨B, 0, none⟩)] W fun e w' => e = .returned (.bool true) ∧ W.grownBy w' none := by
  have HST : Hid (St S B h m cap nu E N Lg (fun i => List.replicate (N i) (mark (nu i))) w0 W) := st
  have HGR : Hid (Gr S B h m m nu E N Lg W) := gr
  have hc := st.book
  have hbB := st.bB
  have hbh := st.bh
  clear st gr
  go_enter Tryz.func73, Tryz.ntmps73
  go_wp2_with fail
  go_loopw [3] (fun i wr => ∃ k : Nat, k ≤ m ∧ i = .int .i64 k ∧ W.grownBy wr none) (fun i _ => m - (intOf i).toNat)
  case atStart => exact ⟨0, Nat.zero_le _, rfl, rfl, rfl, rfl, Nat.le_refl _, fun _ _ _ => rfl⟩
  case round =>
    obtain ⟨k, hk, rfl, hg⟩ := hrel
    have hcb : wr.cell? ⟨B, 2, none⟩ = some (.slice (some ⟨h, 0, none⟩) m cap) := hg.cell hc (by simp)
    have hsz := hg.size
    by_cases hlt : k < m
    · obtain ⟨ao, c, hE⟩ : ∃ ao c, E k = .slice ao (N k) c := by
        rcases bookOwn_shape (HST.out.rows k hlt) with ⟨h1, h2⟩ | ⟨g, c, h1, _⟩
        · exact ⟨none, 0, by rw [h1, h2]⟩
        · exact ⟨some ⟨g, 0, none⟩, c, h1⟩
      obtain ⟨gg, cc, hL⟩ : ∃ gg cc, Lg k = .slice (some ⟨gg, 0, none⟩) (N k + 40) cc := by
        rcases bookOwn_shape (HGR.out.rows k hlt) with ⟨_, h0⟩ | ⟨gg, cc, h1, _⟩
        · omega
        · exact ⟨gg, cc, h1⟩
      have HE : Hid (E k = .slice ao (N k) c) := hE
      have HL : Hid (Lg k = .slice (some ⟨gg, 0, none⟩) (N k + 40) cc) := hL
      have c0 : wr.cell? ⟨h, k * 3, none⟩ = some (.slice ao (N k) c) := (hg.cell (HST.out.l k hlt) (by simp)).trans (by rw [hE])
      have c1 : wr.cell? ⟨h, k * 3 + 1, none⟩ = some (.slice (some ⟨gg, 0, none⟩) (N k + 40) cc) := (hg.cell (HST.out.g k hlt) (by simp)).trans (by rw [hL])
      have c2 : wr.cell? ⟨h, k * 3 + 2, none⟩ = some (.int .i64 (nu k : Int)) := hg.cell (HST.out.n k hlt) (by simp)
      have hNk := hN k hlt
      have hnk := hnu k hlt
      have HG : Hid (W.grownBy wr none) := hg
      have hne : decide (((N k + 40 : Nat) : Int) = ((N k : Nat) : Int) + 40) = true := by simp
      clear hg hE hL
      go_wp2_with fail
      obtain ⟨wo, rfl⟩ : ∃ wo : World, wo = wr := ⟨_, rfl⟩
      have HA : Hid (W.grownBy (wo.alloc (.cells #[.slice ao (N k) c, .slice (some ⟨gg, 0, none⟩) (N k + 40) cc, .int .i64 (nu k : Int)] 102)) none) := HG.out.trans (World.grownBy_alloc _ _ _)
      go_loopw [5] (fun i wq => ∃ q : Nat, q ≤ N k + 40 ∧ i = .int .i64 q ∧ W.grownBy wq none ∧ wq.cell? ⟨wo.heap.size, 0, none⟩ = some (.slice ao (N k) c) ∧ wq.cell? ⟨wo.heap.size, 1, none⟩ = some (.slice (some ⟨gg, 0, none⟩) (N k + 40) cc) ∧ wq.cell? ⟨wo.heap.size, 2, none⟩ = some (.int .i64 (nu k : Int))) (fun i _ => N k + 40 - (intOf i).toNat)
      case atStart => exact ⟨0, Nat.zero_le _, rfl, HA.out, by simp, by simp, by simp⟩
      case round =>
        obtain ⟨q, hq, rfl, hg2, p0, p1, p2⟩ := hrel
        have HG2 : Hid (W.grownBy wr none) := hg2
        clear HA
        by_cases hq2 : q < N k + 40
        · have hrow : wr.ownsRow S 23 1 (.slice (some ⟨gg, 0, none⟩) (N k + 40) cc) (N k + 40) (List.replicate (N k + 40) (mark (nu k))) := by
            have := HGR.out.rows k hlt
            rw [HL.out] at this
            exact this.kept hg2 (.inr (by simp [Value.ownBlock]))
          have hcg : wr.cell? ⟨gg, q, none⟩ = some (.int .u64 (1000 + (nu k : Int))) := cell_rep hrow hq2
          have i1 : (0 : Int) ≤ (q : Int) := by omega
          have i2 : (q : Int) < ((N k + 40 : Nat) : Int) := by omega
          by_cases hq3 : q < N k
          · obtain ⟨g, hao⟩ : ∃ g, ao = some ⟨g, 0, none⟩ := by
              rcases bookOwn_shape (HST.out.rows k hlt) with ⟨h1, h2⟩ | ⟨g, c4, h1, _⟩
              · omega
              · rw [HE.out] at h1; injection h1 with e1 e2 e3; exact ⟨g, e1⟩
            subst hao
            have hrow2 : wr.ownsRow S 23 1 (.slice (some ⟨g, 0, none⟩) (N k) c) (N k) (List.replicate (N k) (mark (nu k))) := by
              have := HST.out.rows k hlt
              rw [HE.out] at this
              exact this.kept hg2 (.inr (by simp [Value.ownBlock]))
            have hcl : wr.cell? ⟨g, q, none⟩ = some (.int .u64 (1000 + (nu k : Int))) := cell_rep hrow2 hq3
            have i3 : (q : Int) < ((N k : Nat) : Int) := by omega
            clear hrow hrow2 hg2
            go_wp2_with fail
            go_quiet (first | (go_at_call 110; exact Calls.quiet_of_same (is_any _ _ (by omega) (by omega))))
            go_wp2_with fail
            go_roundw
            case rel => exact ⟨q + 1, by omega, by go_num, World.grownBy.drewN HG2.out _, p0, p1, p2⟩
            case measure => simp [intOf]; omega
          · have i3 : decide ((q : Int) < ((N k : Nat) : Int)) = false := by simp; omega
            clear hrow hg2
            go_wp2_with fail
            go_quiet (first | (go_at_call 110; exact Calls.quiet_of_same (is_any _ _ (by omega) (by omega))))
            go_wp2_with fail
            go_roundw
            case rel => exact ⟨q + 1, by omega, by go_num, World.grownBy.drewN HG2.out _, p0, p1, p2⟩
            case measure => simp [intOf]; omega
        · clear hg2
          go_wp2_with fail
          go_roundw
          case rel => exact ⟨k + 1, by omega, by go_num, HG2.out⟩
          case measure => simp [intOf]; omega
    · have HG : Hid (W.grownBy wr none) := hg
      clear hg
      go_wp2_with fail
      go_ret
      exact ⟨rfl, HG.out⟩
theorem St.keep {S B h m cap : Nat} {nu : Nat → Nat} {E : Nat → Value} {N : Nat → Nat} {Lg : Nat → Value} {X : Nat → List Value} {w0 W W' : World} {st : Nat → Prop} (s : St S B h m cap nu E N Lg X w0 W) (k : KeepP st W W') (hS : ∀ b, st b → S ≤ b) (hB : ¬ st B) (hh : ¬ st h) (he : ∀ i, i < m → ∀ b, (E i).ownBlock = some b → ¬ st b) : St S B h m cap nu E N Lg X w0 W' where
  sS := Nat.le_trans s.sS k.size
  bB := Nat.lt_of_lt_of_le s.bB k.size
  bh := Nat.lt_of_lt_of_le s.bh k.size
  book := (World.cell?_of_block (w := W) (a := ⟨B, 2, none⟩) (k.block B s.bB hB)).trans s.book
  l := fun i hi => (World.cell?_of_block (w := W) (a := ⟨h, i * 3, none⟩) (k.block h s.bh hh)).trans (s.l i hi)
  g := fun i hi => (World.cell?_of_block (w := W) (a := ⟨h, i * 3 + 1, none⟩) (k.block h s.bh hh)).trans (s.g i hi)
  n := fun i hi => (World.cell?_of_block (w := W) (a := ⟨h, i * 3 + 2, none⟩) (k.block h s.bh hh)).trans (s.n i hi)
  fz := fun j => (World.frozen?_of_block (w := W) (a := ⟨h, j, none⟩) (k.block h s.bh hh)).trans (s.fz j)
  rows := fun i hi => own_keepP (s.rows i hi) k (he i hi)
  below := below_keepP s.below k s.sS hS
theorem Gr.keep {S B h m k : Nat} {nu : Nat → Nat} {E : Nat → Value} {N : Nat → Nat} {Lg : Nat → Value} {W W' : World} {st : Nat → Prop} (gr : Gr S B h m k nu E N Lg W) (kp : KeepP st W W') (hst : ∀ j, j < k → ∀ b, (Lg j).ownBlock = some b → ¬ st b) : Gr S B h m k nu E N Lg W' :=
  ⟨fun j hj => own_keepP (gr.rows j hj) kp (hst j hj), gr.nB, gr.nh, gr.ne⟩
end Go.Proofs.YtohoieleakieeaaGreatDoor.Bn
