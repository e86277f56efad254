/-
  Out of BkByG, BwByte, BkRgM.
-/
import Derived.Test.YtehadfidenejdaaGreatDoorGp4
import Derived.Deep.AppendLies
import Derived.Deep.RegionLaw
import Derived.Test.YtehadfidenejdaaGreatDoorGp2

/-! A Book of several kinds: its lists of bytes: what is put behind them, and the look. Written by mkbkb.py out of AeBook.lean. -/
namespace Go.Proofs.YtehadfidenejdaaGreatDoor.Bb
open Go Go.RowKit
open Go.Proofs.YtehadfidenejdaaGreatDoor.Bq (OwnB keep_grown keep_below own_keepP below_keepP Sep run_append_two wpList_append_two)

theorem Tryz.infoByteB : (Tryz.prog.info? 5).map (fun i => (i.zero, i.size, i.bytes)) = some (some (.int .u8 0), 1, 1) := by kernel_rfl

/-- A beginning of a row is owned as the row is. -/
theorem own_prefix {W : World} {S g c n k : Nat} {xs : List Value} (h : W.ownsRow S 5 1 (.slice (some ⟨g, 0, none⟩) (n + k) c) (n + k) xs) : W.ownsRow S 5 1 (.slice (some ⟨g, 0, none⟩) n c) n (xs.take n) := by
  refine ⟨by rw [List.length_take, h.1]; omega, ?_⟩
  rcases h.2 with ⟨h1, _⟩ | ⟨g', c', cur, hv, hb, hg, hn, hc, hs, ht⟩
  · cases h1
  · cases hv
    refine .inr ⟨g, c, cur, rfl, hb, hg, by omega, hc, hs, ?_⟩
    rw [← ht, List.take_take]
    congr 1
    omega

/-- Old memory but one list's row is as it was: so is the book. -/
theorem St.grown_at {S B h m cap : Nat} {nu : Nat → Nat} {E : Nat → Value} {N : Nat → Nat} {Lg : Nat → Value} {X : Nat → List Value} {w0 W W' : World} {row : Option Nat} (st : St S B h m cap nu E N Lg X w0 W) (hg : W.grownBy W' row) (k : Nat)
    (hS : ∀ k, row = some k → S ≤ k) (hB : row ≠ some B) (hh : row ≠ some h) (he : ∀ i, i < m → i ≠ k → (E i).ownBlock = none ∨ (E i).ownBlock ≠ row) (hk : k < m → W'.ownsRow S 5 1 (E k) (N k) (X k)) : St S B h m cap nu E N Lg X w0 W' where
  sS := Nat.le_trans st.sS hg.size
  bB := Nat.lt_of_lt_of_le st.bB hg.size
  bh := Nat.lt_of_lt_of_le st.bh hg.size
  book := hg.cell st.book (fun e => hB e.symm)
  l := fun i hi => hg.cell (st.l i hi) (fun e => hh e.symm)
  g := fun i hi => hg.cell (st.g i hi) (fun e => hh e.symm)
  n := fun i hi => hg.cell (st.n i hi) (fun e => hh e.symm)
  fz := fun j => (World.frozen?_of_block (w := W) (a := ⟨h, j, none⟩) (hg.block h st.bh (fun e => hh e.symm))).trans (st.fz j)
  rows := fun i hi => by
    by_cases hik : i = k
    · rw [hik] at hi ⊢; exact hk hi
    · exact (st.rows i hi).kept hg (he i hi hik)
  below := st.below.grown hg st.sS hS

/-- The longer list is kept. -/
theorem St.lay {S B h m cap : Nat} {nu : Nat → Nat} {E : Nat → Value} {N : Nat → Nat} {Lg : Nat → Value} {X : Nat → List Value} {w0 W : World} (st : St S B h m cap nu E N Lg X w0 W) (sep : Sep S B h m E) {k : Nat} (hk : k < m) (u : Value) :
    St S B h m cap nu E N (fun j => if j = k then u else Lg j) X w0 (W.setCell ⟨h, k * 3 + 1, none⟩ u) := by
  have hgr : W.grownBy (W.setCell ⟨h, k * 3 + 1, none⟩ u) (some h) := ⟨rfl, rfl, rfl, by simp, fun b _ hb => Below.heap_setCell _ _ _ b (fun e => hb (by rw [e]))⟩
  have hBh : some B ≠ some h := fun e => sep.Bh (by injection e)
  refine ⟨Nat.le_trans st.sS hgr.size, Nat.lt_of_lt_of_le st.bB hgr.size, Nat.lt_of_lt_of_le st.bh hgr.size, hgr.cell st.book hBh, fun j hj => ?_, fun j hj => ?_, fun j hj => ?_, fun j => ?_, fun j hj => (st.rows j hj).kept hgr (.inr (sep.eh j hj)), st.below.setCell (p := ⟨h, k * 3 + 1, none⟩) sep.Sh u⟩
  · rw [World.cell?_setCell_other _ _ _ _ (by intro e; injection e; omega)]
    exact st.l j hj
  · by_cases hjk : j = k
    · subst hjk
      rw [if_pos rfl]
      exact World.cell?_setCell_same _ _ _ (st.g j hj)
    · rw [if_neg hjk, World.cell?_setCell_other _ _ _ _ (by intro e; injection e; omega)]
      exact st.g j hj
  · rw [World.cell?_setCell_other _ _ _ _ (by intro e; injection e; omega)]
    exact st.n j hj
  · rw [World.frozen?_setCell]
    exact st.fz j

/-- Each of the first k lists has its longer one, apart from all else. -/
structure Gr (S B h m k : Nat) (nu : Nat → Nat) (E : Nat → Value) (N : Nat → Nat) (Lg : Nat → Value) (W : World) : Prop where
  rows : ∀ j, j < k → W.ownsRow S 5 1 (Lg j) (N j + 40) (List.replicate (N j + 40) (mark (nu j)))
  nB : ∀ j, j < k → (Lg j).ownBlock ≠ some B
  nh : ∀ j, j < k → (Lg j).ownBlock ≠ some h
  ne : ∀ j i, j < k → i < m → i ≠ j → (Lg j).ownBlock ≠ (E i).ownBlock

theorem Gr.grown {S B h m k : Nat} {nu : Nat → Nat} {E : Nat → Value} {N : Nat → Nat} {Lg : Nat → Value} {W W' : World} {row : Option Nat} (gr : Gr S B h m k nu E N Lg W) (hg : W.grownBy W' row) (hr : ∀ j, j < k → (Lg j).ownBlock ≠ row) : Gr S B h m k nu E N Lg W' :=
  ⟨fun j hj => (gr.rows j hj).kept hg (.inr (hr j hj)), gr.nB, gr.nh, gr.ne⟩

/-- What one more element behind a list leaves. -/
theorem grow_step {S B h m cap k q H : Nat} {nu : Nat → Nat} {E : Nat → Value} {N : Nat → Nat} {Lg : Nat → Value} {w0 W W' : World} {v : Value} {g c : Nat} (hk : k < m) (sep : Sep S B h m E) (st : St S B h m cap nu E N Lg (fun i => List.replicate (N i) (mark (nu i))) w0 W) (gr : Gr S B h m k nu E N Lg W)
    (hv : (v = E k ∧ q = 0) ∨ (∃ g1 c1, v = .slice (some ⟨g1, 0, none⟩) (N k + q) c1 ∧ ((∃ n1, E k = .slice (some ⟨g1, 0, none⟩) n1 c1) ∨ H ≤ g1)))
    (hH : H ≤ W.heap.size) (hHB : B < H) (hHh : h < H) (hHE : ∀ i, i < m → ∀ b, (E i).ownBlock = some b → b < H) (hHL : ∀ j, j < k → ∀ b, (Lg j).ownBlock = some b → b < H)
    (hown' : W'.ownsRow S 5 1 (.slice (some ⟨g, 0, none⟩) (N k + q + 1) c) (N k + q + 1) (List.replicate (N k + q) (mark (nu k)) ++ [mark (nu k)]))
    (hat : (v = .slice (some ⟨g, 0, none⟩) (N k + q) c ∧ W.grownBy W' (some g)) ∨ (g = W.heap.size ∧ W.grownBy W' none)) :
    St S B h m cap nu E N Lg (fun i => List.replicate (N i) (mark (nu i))) w0 W' ∧ Gr S B h m k nu E N Lg W' ∧
      ((∃ n1, E k = .slice (some ⟨g, 0, none⟩) n1 c) ∨ H ≤ g) ∧
      W'.ownsRow S 5 1 (.slice (some ⟨g, 0, none⟩) (N k + (q + 1)) c) (N k + (q + 1)) (List.replicate (N k + (q + 1)) (mark (nu k))) ∧ H ≤ W'.heap.size ∧ (∀ a : Addr, a.block < H → (∀ n1, E k ≠ .slice (some ⟨a.block, 0, none⟩) n1 c) → W'.cell? a = W.cell? a) := by
  have ho : W'.ownsRow S 5 1 (.slice (some ⟨g, 0, none⟩) (N k + (q + 1)) c) (N k + (q + 1)) (List.replicate (N k + (q + 1)) (mark (nu k))) := by
    have e : List.replicate (N k + (q + 1)) (mark (nu k)) = List.replicate (N k + q) (mark (nu k)) ++ [mark (nu k)] := by
      rw [show N k + (q + 1) = (N k + q) + 1 by omega, List.replicate_succ']
    rw [e]
    exact hown'
  have hSg : S ≤ g := (ho.lt g rfl).1
  rcases hat with ⟨hvg, hgr⟩ | ⟨hgn, hgr⟩
  · have hplace : (∃ n1, E k = .slice (some ⟨g, 0, none⟩) n1 c) ∨ H ≤ g := by
      rcases hv with ⟨h1, h2⟩ | ⟨g1, c1, h1, h2⟩
      · left
        exact ⟨_, h1.symm.trans hvg⟩
      · rw [hvg] at h1
        injection h1 with e1 e2 e3
        injection e1 with e1
        injection e1 with e1
        subst e1 e3
        exact h2
    have hob : ∀ b, b < H → (∀ n1, E k ≠ .slice (some ⟨b, 0, none⟩) n1 c) → b ≠ g := by
      intro b hb hne e
      subst e
      rcases hplace with ⟨n1, h1⟩ | h1
      · exact hne n1 h1
      · omega
    have hgB : some g ≠ some B := by
      intro e; injection e with e
      refine hob B hHB (fun n1 hE => sep.eB k hk (by rw [hE]; rfl)) e.symm
    have hgh : some g ≠ some h := by
      intro e; injection e with e
      refine hob h hHh (fun n1 hE => sep.eh k hk (by rw [hE]; rfl)) e.symm
    refine ⟨st.grown_at hgr k (fun b e => by injection e with e; omega) hgB hgh (fun i hi hik => ?_) (fun _ => ?_), gr.grown hgr (fun j hj e => ?_), hplace, ho, Nat.le_trans hH hgr.size, fun a ha hne => ?_⟩
    · cases hEi : (E i).ownBlock with
      | none => exact .inl rfl
      | some b =>
        right
        intro e
        injection e with e
        subst e
        refine hob b (hHE i hi b hEi) (fun n1 hE => ?_) rfl
        rcases sep.ee i k hi hk hik with h1 | h1
        · rw [hEi] at h1; cases h1
        · exact h1 (by rw [hEi, hE]; rfl)
    · rcases hplace with ⟨n1, h1⟩ | h1
      · have hn1 : n1 = N k := by
          rcases bookOwn_shape (st.rows k hk) with ⟨h2, _⟩ | ⟨g2, c2, h2, _⟩
          · rw [h1] at h2; cases h2
          · rw [h1] at h2; injection h2
        rw [h1, hn1]
        have := own_prefix ho
        rw [List.take_replicate, Nat.min_eq_left (by omega)] at this
        exact this
      · refine (st.rows k hk).kept hgr ?_
        cases hEk : (E k).ownBlock with
        | none => exact .inl rfl
        | some b => right; intro e; injection e with e; have := hHE k hk b hEk; omega
    · cases hLj : (Lg j).ownBlock with
      | none => rw [hLj] at e; cases e
      | some b =>
        rw [hLj] at e; injection e with e; subst e
        refine hob b (hHL j hj b hLj) (fun n1 hE => ?_) rfl
        exact gr.ne j k hj hk (by omega) (by rw [hLj, hE]; rfl)
    · exact World.cell?_of_block (hgr.block a.block (by omega) (by intro e; injection e with e; exact hob a.block ha hne e))
  · refine ⟨st.grown hgr (fun b e => by cases e) (by simp) (by simp) (fun i _ => ?_), gr.grown hgr (fun j hj e => ?_), .inr (by omega), ho, Nat.le_trans hH hgr.size, fun a ha _ => ?_⟩
    · cases hEi : (E i).ownBlock with
      | none => exact .inl rfl
      | some b => right; simp
    · rcases (gr.rows j hj).2 with ⟨_, h0⟩ | ⟨g2, c2, _, h2, _⟩
      · omega
      · rw [h2] at e; cases e
    · exact World.cell?_of_block (hgr.block a.block (by omega) (by simp))

set_option maxRecDepth 20000 in
set_option maxHeartbeats 4000000 in
theorem bk_grow_any (S B h m cap : Nat) (nu : Nat → Nat) (E : Nat → Value) (N : Nat → Nat) (Lg : Nat → Value) (w0 wF : World) (hnu : ∀ i, i < m → nu i ≤ 5000000) (hm2 : m ≤ 3000000) (hN : ∀ i, i < m → N i ≤ 5000000) (hLg : ∀ i, i < m → Lg i = .slice none 0 0) (sep : Sep S B h m E) (st : St S B h m cap nu E N Lg (fun i => List.replicate (N i) (mark (nu i))) w0 wF) :
    Calls Tryz.prog 64 #[.pointer (some ⟨B, 0, none⟩)] wF fun e w' => e = .returned (.tuple #[]) ∧ ∃ Lg', St S B h m cap nu E N Lg' (fun i => List.replicate (N i) (mark (nu i))) w0 w' ∧ Gr S B h m m nu E N Lg' w' ∧ KeepP (fun b => OwnB m E b ∨ b = h) wF w' ∧ ∀ j, j < m → ∀ b, (Lg' j).ownBlock = some b → OwnB m E b ∨ wF.heap.size ≤ b := by
  obtain ⟨i0, hi, hz0, hz1, hz2⟩ := info_parts Tryz.infoByteB
  have hc := st.book
  have HST := veil st
  clear st
  go_enter Tryz.func64, Tryz.ntmps64
  go_wp2
  go_loopw [2] (fun i wr => ∃ (k : Nat) (L : Nat → Value), k ≤ m ∧ i = .int .i64 k ∧ St S B h m cap nu E N L (fun i => List.replicate (N i) (mark (nu i))) w0 wr ∧ Gr S B h m k nu E N L wr ∧ (∀ j, k ≤ j → j < m → L j = .slice none 0 0) ∧ KeepP (fun b => OwnB m E b ∨ b = h) wF wr ∧ ∀ j, j < k → ∀ b, (L j).ownBlock = some b → OwnB m E b ∨ wF.heap.size ≤ b) (fun i _ => m - (intOf i).toNat)
  case atStart => exact ⟨0, Lg, Nat.zero_le _, rfl, HST.out, ⟨fun j hj => absurd hj (Nat.not_lt_zero _), fun j hj => absurd hj (Nat.not_lt_zero _), fun j hj => absurd hj (Nat.not_lt_zero _), fun j i hj => absurd hj (Nat.not_lt_zero _)⟩, fun j _ hj => hLg j hj, KeepP.refl _ _, fun j hj => absurd hj (Nat.not_lt_zero _)⟩
  case round =>
    obtain ⟨k, L, hk, rfl, st, gr, hnil, hkp, hlb⟩ := hrel
    have HKP := veil hkp
    have HLB := veil hlb
    clear hkp hlb
    have hcb := st.book
    by_cases hlt : k < m
    · have c0 := st.l k hlt
      have c1 := st.g k hlt
      have c2 := st.n k hlt
      have hNk := hN k hlt
      have hnk := hnu k hlt
      have HSR : Hid (St S B h m cap nu E N L (fun i => List.replicate (N i) (mark (nu i))) w0 wr) := st
      have HGR : Hid (Gr S B h m k nu E N L wr) := gr
      have HNL : Hid (∀ j, k ≤ j → j < m → L j = .slice none 0 0) := hnil
      rw [hnil k (Nat.le_refl _) hlt] at c1
      have hbh := st.bh
      obtain ⟨ao, c, hE⟩ : ∃ ao c, E k = .slice ao (N k) c := by
        rcases bookOwn_shape (st.rows k hlt) with ⟨h1, h2⟩ | ⟨g, c, h1, _⟩
        · exact ⟨none, 0, by rw [h1, h2]⟩
        · exact ⟨some ⟨g, 0, none⟩, c, h1⟩
      have HE : Hid (E k = .slice ao (N k) c) := hE
      rw [hE] at c0
      clear st gr hnil hE
      go_wp2_with fail
      obtain ⟨wo, rfl⟩ : ∃ wo : World, wo = wr := ⟨_, rfl⟩
      have HA := HSR.out.alloc (.cells #[.slice ao (N k) c, .slice none 0 0, .int .i64 (nu k : Int)] 95)
      have HG := HGR.out.grown (World.grownBy_alloc wo (.cells #[.slice ao (N k) c, .slice none 0 0, .int .i64 (nu k : Int)] 95) none) (fun j hj e => by
        rcases (HGR.out.rows j hj).2 with ⟨_, h0⟩ | ⟨g2, c2, _, h2, _⟩
        · omega
        · rw [h2] at e; cases e)
      have HSz : Hid (wo.heap.size + 1 = (wo.alloc (.cells #[.slice ao (N k) c, .slice none 0 0, .int .i64 (nu k : Int)] 95)).heap.size) := by show _ = _; simp
      go_loopw [4, 5] (fun t i wq => ∃ (q : Nat) (ao3 : Option Addr) (c3 : Nat), q ≤ 40 ∧ i = .int .i64 q ∧ t = .slice ao3 (N k + q) c3 ∧ St S B h m cap nu E N L (fun i => List.replicate (N i) (mark (nu i))) w0 wq ∧ Gr S B h m k nu E N L wq ∧
          ((.slice ao3 (N k + q) c3 = E k ∧ q = 0) ∨ (∃ g1 c1, Value.slice ao3 (N k + q) c3 = .slice (some ⟨g1, 0, none⟩) (N k + q) c1 ∧ ((∃ n1, E k = .slice (some ⟨g1, 0, none⟩) n1 c1) ∨ wo.heap.size + 1 ≤ g1))) ∧
          wq.ownsRow S 5 1 (.slice ao3 (N k + q) c3) (N k + q) (List.replicate (N k + q) (mark (nu k))) ∧ wo.heap.size + 1 ≤ wq.heap.size ∧ wq.cell? ⟨wo.heap.size, 2, none⟩ = some (.int .i64 (nu k : Int)) ∧ KeepP (fun b => OwnB m E b ∨ b = h) wF wq) (fun _ i _ => 40 - (intOf i).toNat)
      case atStart =>
        refine ⟨0, ao, c, Nat.zero_le _, rfl, rfl, HA, HG, .inl ⟨HE.out.symm, rfl⟩, ?_, Nat.le_of_eq HSz.out, by simp, keep_grown HKP.out (World.grownBy_alloc _ _ none) (fun b e => by cases e)⟩
        have := HA.rows k hlt
        rw [HE.out] at this
        exact this
      case round =>
        obtain ⟨q, ao3, c3, hq, rfl, rfl, st2, gr2, hsh, hown, hsz, hp2, hkp2⟩ := hrel
        have HKP2 := veil hkp2
        clear hkp2
        have HS2 : Hid (St S B h m cap nu E N L (fun i => List.replicate (N i) (mark (nu i))) w0 wr) := st2
        have HG2 : Hid (Gr S B h m k nu E N L wr) := gr2
        have HSH : Hid ((.slice ao3 (N k + q) c3 = E k ∧ q = 0) ∨ (∃ g1 c1, Value.slice ao3 (N k + q) c3 = .slice (some ⟨g1, 0, none⟩) (N k + q) c1 ∧ ((∃ n1, E k = .slice (some ⟨g1, 0, none⟩) n1 c1) ∨ wo.heap.size + 1 ≤ g1))) := hsh
        have HOW : Hid (wr.ownsRow S 5 1 (.slice ao3 (N k + q) c3) (N k + q) (List.replicate (N k + q) (mark (nu k)))) := hown
        have hSz2 := st2.sS
        have hbB2 := st2.bB
        clear st2 gr2 hsh hown HA HG HSz
        by_cases hq40 : q < 40
        · go_wp2_with fail
          refine (mark_any _ _ (by omega) (by omega)).mono ?_
          rintro e9 w9 ⟨rfl, rfl⟩
          go_wp2_with (at_builtin; refine wpList_append_two _ rfl _ _ 24 rfl S 5 i0 (.int .u8 0) 1 1 Tryz.underlying24 hi hz0 hz1 hz2 rfl (by decide) _ _ _ rfl (HOW.out.alloc _) ⟨w9.heap.size, 0, none⟩ 1 1 [mark (nu k)] rfl rfl (cell_one_new _ _ _) (by simp [mark, Value.oneCell']) (by decide) (by unfold maxLen; omega) (by omega) (by simp; omega) ?_; intro g1 c1 w1 hown1 hat1)
          have hne1 : ∀ n1, E k ≠ .slice (some ⟨wo.heap.size, 0, none⟩) n1 c1 := fun n1 hE1 => by
            have := (HSR.out.rows k hlt).lt wo.heap.size (by rw [hE1]; rfl)
            omega
          obtain ⟨st3, gr3, hpl, how3, hsz3, hcell3⟩ := grow_step (H := wo.heap.size + 1) hlt sep (HS2.out.alloc (.cells #[mark (nu k)] 5)) (HG2.out.grown (World.grownBy_alloc w9 (.cells #[mark (nu k)] 5) none) (fun j hj e => by
            rcases (HG2.out.rows j hj).2 with ⟨_, h0⟩ | ⟨g2, c2, _, h2, _⟩
            · omega
            · rw [h2] at e; cases e)) HSH.out (by simp; omega) (by have := HSR.out.bB; omega) (by omega) (fun i hi b hb => by have := (HSR.out.rows i hi).lt b hb; omega) (fun j hj b hb => by have := (HGR.out.rows j hj).lt b hb; omega) hown1 hat1
          have hp3 : w1.cell? ⟨wo.heap.size, 2, none⟩ = some (.int .i64 (nu k : Int)) := by
            rw [hcell3 ⟨wo.heap.size, 2, none⟩ (Nat.lt_succ_self _) hne1]
            exact (World.cell?_alloc_old _ _ _ (by show wo.heap.size ≠ _; omega)).trans hp2
          have HKP4 := veil (show KeepP (fun b => OwnB m E b ∨ b = h) wF w1 by
            have ka := keep_grown HKP2.out (World.grownBy_alloc w9 (.cells #[mark (nu k)] 5) none) (fun b e => by cases e)
            rcases hat1 with ⟨_, hg⟩ | ⟨_, hg⟩
            · refine keep_grown ka hg (fun b e => ?_)
              injection e with e
              subst e
              rcases hpl with ⟨n1, h1⟩ | h1
              · exact .inl (.inl ⟨k, hlt, by rw [h1]; rfl⟩)
              · exact .inr (by have := HKP.out.size; omega)
            · exact keep_grown ka hg (fun b e => by cases e))
          clear hown1 hat1 hne1 hcell3
          have HS3 : Hid (St S B h m cap nu E N L (fun i => List.replicate (N i) (mark (nu i))) w0 w1) := st3
          have HG3 : Hid (Gr S B h m k nu E N L w1) := gr3
          have HO3 : Hid (w1.ownsRow S 5 1 (.slice (some ⟨g1, 0, none⟩) (N k + (q + 1)) c1) (N k + (q + 1)) (List.replicate (N k + (q + 1)) (mark (nu k)))) := how3
          have HPL : Hid ((∃ n1, E k = .slice (some ⟨g1, 0, none⟩) n1 c1) ∨ wo.heap.size + 1 ≤ g1) := hpl
          clear st3 gr3 how3 hpl
          go_wp2_with fail
          go_roundw
          case rel => exact ⟨q + 1, _, c1, by omega, by go_num, rfl, HS3.out, HG3.out, .inr ⟨g1, c1, rfl, HPL.out⟩, HO3.out, hsz3, hp3, HKP4.out⟩
          case measure => simp [intOf]; omega
        · have hqe : q = 40 := by omega
          subst hqe
          have hcb2 := HS2.out.book
          have hg2 : wr.cell? ⟨h, k * 3 + 1, none⟩ = some (.slice none 0 0) := by rw [HS2.out.g k hlt, HNL.out k (Nat.le_refl _) hlt]
          have hfz2 := HS2.out.fz (k * 3 + 1)
          go_wp2_with fail
          go_roundw
          case rel =>
            refine ⟨k + 1, _, by omega, by go_num, HS2.out.lay sep hlt _, ?_, fun j hj hjm => ?_, keep_grown (row := some h) HKP2.out ⟨rfl, rfl, rfl, by simp, fun b _ hb => Below.heap_setCell _ _ _ b (fun e => hb (by rw [e]))⟩ (fun b e => by injection e with e; subst e; exact .inl (.inr rfl)), fun j hj b e => ?_⟩
            · have hgr : wr.grownBy (wr.setCell ⟨h, k * 3 + 1, none⟩ (.slice ao3 (N k + 40) c3)) (some h) := ⟨rfl, rfl, rfl, by simp, fun b _ hb => Below.heap_setCell _ _ _ b (fun e => hb (by rw [e]))⟩
              have hlg : ∀ j, j < k + 1 → j ≠ k → j < k := fun j h1 h2 => by omega
              obtain ⟨gg, cc, hgg⟩ : ∃ gg cc, Value.slice ao3 (N k + 40) c3 = .slice (some ⟨gg, 0, none⟩) (N k + 40) cc := by
                rcases bookOwn_shape HOW.out with ⟨_, h0⟩ | ⟨gg, cc, h1, _⟩
                · omega
                · exact ⟨gg, cc, h1⟩
              have hplace : (∃ n1, E k = .slice (some ⟨gg, 0, none⟩) n1 cc) ∨ wo.heap.size + 1 ≤ gg := by
                rcases HSH.out with ⟨_, h0⟩ | ⟨g1, c1, h1, h2⟩
                · omega
                · rw [hgg] at h1
                  injection h1 with e1 e2 e3
                  injection e1 with e1
                  injection e1 with e1
                  subst e1 e3
                  exact h2
              have hob : ∀ b, b < wo.heap.size + 1 → (∀ n1, E k ≠ .slice (some ⟨b, 0, none⟩) n1 cc) → (Value.slice ao3 (N k + 40) c3).ownBlock ≠ some b := by
                intro b hb hne e
                rw [hgg] at e
                injection e with e
                subst e
                rcases hplace with ⟨n1, h1⟩ | h1
                · exact hne n1 h1
                · have h2 : gg < wo.heap.size + 1 := hb
                  omega
              have hkB := hob B (by have := HSR.out.bB; omega) (fun n1 hE => sep.eB k hlt (by rw [hE]; rfl))
              have hkh := hob h (by omega) (fun n1 hE => sep.eh k hlt (by rw [hE]; rfl))
              refine ⟨fun j hj => ?_, fun j hj => ?_, fun j hj => ?_, fun j i hj hi hij => ?_⟩
              · by_cases hjk : j = k
                · subst hjk; rw [if_pos rfl]; exact HOW.out.kept hgr (.inr hkh)
                · rw [if_neg hjk]; exact (HG2.out.rows j (hlg j hj hjk)).kept hgr (.inr (HG2.out.nh j (hlg j hj hjk)))
              · by_cases hjk : j = k
                · subst hjk; rw [if_pos rfl]; exact hkB
                · rw [if_neg hjk]; exact HG2.out.nB j (hlg j hj hjk)
              · by_cases hjk : j = k
                · subst hjk; rw [if_pos rfl]; exact hkh
                · rw [if_neg hjk]; exact HG2.out.nh j (hlg j hj hjk)
              · by_cases hjk : j = k
                · subst hjk
                  rw [if_pos rfl]
                  intro e
                  cases hEi : (E i).ownBlock with
                  | none => rw [hEi, hgg] at e; cases e
                  | some b =>
                    rw [hEi] at e
                    refine hob b (by have := (HSR.out.rows i hi).lt b hEi; omega) (fun n1 hE => ?_) e
                    rcases sep.ee i j hi hlt hij with h1 | h1
                    · rw [hEi] at h1; cases h1
                    · exact h1 (by rw [hEi, hE]; rfl)
                · rw [if_neg hjk]; exact HG2.out.ne j i (hlg j hj hjk) hi hij
            · rw [if_neg (by omega)]; exact HNL.out j (by omega) hjm
            · by_cases hjk : j = k
              · rw [if_pos hjk] at e
                rcases HSH.out with ⟨_, h0⟩ | ⟨g1, c1, h1, h2⟩
                · omega
                · rw [h1] at e
                  injection e with e
                  subst e
                  rcases h2 with ⟨n1, h2⟩ | h2
                  · exact .inl ⟨k, hlt, by rw [h2]; rfl⟩
                  · exact .inr (by have := HKP.out.size; have h3 : wo.heap.size + 1 ≤ g1 := h2; show wF.heap.size ≤ g1; omega)
              · rw [if_neg hjk] at e
                exact HLB.out j (by omega) b e
          case measure => simp [intOf]; omega
    · have hkm : k = m := by omega
      subst hkm
      have HSR : Hid (St S B h k cap nu E N L (fun i => List.replicate (N i) (mark (nu i))) w0 wr) := st
      have HGR : Hid (Gr S B h k k nu E N L wr) := gr
      clear st gr hnil
      go_wp2_with fail
      go_end0
      exact ⟨rfl, L, HSR.out, HGR.out, HKP.out, HLB.out⟩
set_option maxHeartbeats 400000 in
theorem is_any (n : Int) (w : World) (h0 : 0 ≤ n) (h1 : n ≤ 5000000) :
    Calls Tryz.prog 107 #[.int .u8 (1 + n % 250), .int .i64 n] w fun e w' => e = .returned (.bool true) ∧ w' = w := by
  go_enter Tryz.func107, Tryz.ntmps107
  go_wp2
  go_ret
  exact ⟨by simp, rfl⟩

theorem cell_rep {W : World} {S g c n q : Nat} {u : Value} (h : W.ownsRow S 5 1 (.slice (some ⟨g, 0, none⟩) n c) n (List.replicate n u)) (hq : q < n) : W.cell? ⟨g, q, none⟩ = some u := by
  rw [h.cellAt q (by simpa using hq), List.getElem?_replicate, if_pos hq]

theorem World.grownBy.drewN {a b : World} {row : Option Nat} (h : a.grownBy b row) (n : Nat) : a.grownBy (b.drewN n) row := ⟨h.os, h.tape, h.output, h.size, h.block⟩

set_option maxRecDepth 20000 in
set_option maxHeartbeats 4000000 in
theorem look_any (S B h m cap : Nat) (nu : Nat → Nat) (E : Nat → Value) (N : Nat → Nat) (Lg : Nat → Value) (w0 W : World) (hnu : ∀ i, i < m → nu i ≤ 5000000) (hm2 : m ≤ 3000000) (hN : ∀ i, i < m → N i ≤ 5000000) (st : St S B h m cap nu E N Lg (fun i => List.replicate (N i) (mark (nu i))) w0 W) (gr : Gr S B h m m nu E N Lg W) :
    Calls Tryz.prog 76 #[.pointer (some ⟨B, 0, none⟩)] W fun e w' => e = .returned (.bool true) ∧ W.grownBy w' none := by
  have HST : Hid (St S B h m cap nu E N Lg (fun i => List.replicate (N i) (mark (nu i))) w0 W) := st
  have HGR : Hid (Gr S B h m m nu E N Lg W) := gr
  have hc := st.book
  have hbB := st.bB
  have hbh := st.bh
  clear st gr
  go_enter Tryz.func76, Tryz.ntmps76
  go_wp2_with fail
  go_loopw [3] (fun i wr => ∃ k : Nat, k ≤ m ∧ i = .int .i64 k ∧ W.grownBy wr none) (fun i _ => m - (intOf i).toNat)
  case atStart => exact ⟨0, Nat.zero_le _, rfl, rfl, rfl, rfl, Nat.le_refl _, fun _ _ _ => rfl⟩
  case round =>
    obtain ⟨k, hk, rfl, hg⟩ := hrel
    have hcb : wr.cell? ⟨B, 1, none⟩ = some (.slice (some ⟨h, 0, none⟩) m cap) := hg.cell hc (by simp)
    have hsz := hg.size
    by_cases hlt : k < m
    · obtain ⟨ao, c, hE⟩ : ∃ ao c, E k = .slice ao (N k) c := by
        rcases bookOwn_shape (HST.out.rows k hlt) with ⟨h1, h2⟩ | ⟨g, c, h1, _⟩
        · exact ⟨none, 0, by rw [h1, h2]⟩
        · exact ⟨some ⟨g, 0, none⟩, c, h1⟩
      obtain ⟨gg, cc, hL⟩ : ∃ gg cc, Lg k = .slice (some ⟨gg, 0, none⟩) (N k + 40) cc := by
        rcases bookOwn_shape (HGR.out.rows k hlt) with ⟨_, h0⟩ | ⟨gg, cc, h1, _⟩
        · omega
        · exact ⟨gg, cc, h1⟩
      have HE : Hid (E k = .slice ao (N k) c) := hE
      have HL : Hid (Lg k = .slice (some ⟨gg, 0, none⟩) (N k + 40) cc) := hL
      have c0 : wr.cell? ⟨h, k * 3, none⟩ = some (.slice ao (N k) c) := (hg.cell (HST.out.l k hlt) (by simp)).trans (by rw [hE])
      have c1 : wr.cell? ⟨h, k * 3 + 1, none⟩ = some (.slice (some ⟨gg, 0, none⟩) (N k + 40) cc) := (hg.cell (HST.out.g k hlt) (by simp)).trans (by rw [hL])
      have c2 : wr.cell? ⟨h, k * 3 + 2, none⟩ = some (.int .i64 (nu k : Int)) := hg.cell (HST.out.n k hlt) (by simp)
      have hNk := hN k hlt
      have hnk := hnu k hlt
      have HG : Hid (W.grownBy wr none) := hg
      have hne : decide (((N k + 40 : Nat) : Int) = ((N k : Nat) : Int) + 40) = true := by simp
      clear hg hE hL
      go_wp2_with fail
      obtain ⟨wo, rfl⟩ : ∃ wo : World, wo = wr := ⟨_, rfl⟩
      have HA : Hid (W.grownBy (wo.alloc (.cells #[.slice ao (N k) c, .slice (some ⟨gg, 0, none⟩) (N k + 40) cc, .int .i64 (nu k : Int)] 95)) none) := HG.out.trans (World.grownBy_alloc _ _ _)
      go_loopw [5] (fun i wq => ∃ q : Nat, q ≤ N k + 40 ∧ i = .int .i64 q ∧ W.grownBy wq none ∧ wq.cell? ⟨wo.heap.size, 0, none⟩ = some (.slice ao (N k) c) ∧ wq.cell? ⟨wo.heap.size, 1, none⟩ = some (.slice (some ⟨gg, 0, none⟩) (N k + 40) cc) ∧ wq.cell? ⟨wo.heap.size, 2, none⟩ = some (.int .i64 (nu k : Int))) (fun i _ => N k + 40 - (intOf i).toNat)
      case atStart => exact ⟨0, Nat.zero_le _, rfl, HA.out, by simp, by simp, by simp⟩
      case round =>
        obtain ⟨q, hq, rfl, hg2, p0, p1, p2⟩ := hrel
        have HG2 : Hid (W.grownBy wr none) := hg2
        clear HA
        by_cases hq2 : q < N k + 40
        · have hrow : wr.ownsRow S 5 1 (.slice (some ⟨gg, 0, none⟩) (N k + 40) cc) (N k + 40) (List.replicate (N k + 40) (mark (nu k))) := by
            have := HGR.out.rows k hlt
            rw [HL.out] at this
            exact this.kept hg2 (.inr (by simp [Value.ownBlock]))
          have hcg : wr.cell? ⟨gg, q, none⟩ = some (.int .u8 (1 + (nu k : Int) % 250)) := cell_rep hrow hq2
          have i1 : (0 : Int) ≤ (q : Int) := by omega
          have i2 : (q : Int) < ((N k + 40 : Nat) : Int) := by omega
          by_cases hq3 : q < N k
          · obtain ⟨g, hao⟩ : ∃ g, ao = some ⟨g, 0, none⟩ := by
              rcases bookOwn_shape (HST.out.rows k hlt) with ⟨h1, h2⟩ | ⟨g, c4, h1, _⟩
              · omega
              · rw [HE.out] at h1; injection h1 with e1 e2 e3; exact ⟨g, e1⟩
            subst hao
            have hrow2 : wr.ownsRow S 5 1 (.slice (some ⟨g, 0, none⟩) (N k) c) (N k) (List.replicate (N k) (mark (nu k))) := by
              have := HST.out.rows k hlt
              rw [HE.out] at this
              exact this.kept hg2 (.inr (by simp [Value.ownBlock]))
            have hcl : wr.cell? ⟨g, q, none⟩ = some (.int .u8 (1 + (nu k : Int) % 250)) := cell_rep hrow2 hq3
            have i3 : (q : Int) < ((N k : Nat) : Int) := by omega
            clear hrow hrow2 hg2
            go_wp2_with fail
            go_quiet (first | (go_at_call 107; exact Calls.quiet_of_same (is_any _ _ (by omega) (by omega))))
            go_wp2_with fail
            go_roundw
            case rel => exact ⟨q + 1, by omega, by go_num, World.grownBy.drewN HG2.out _, p0, p1, p2⟩
            case measure => simp [intOf]; omega
          · have i3 : decide ((q : Int) < ((N k : Nat) : Int)) = false := by simp; omega
            clear hrow hg2
            go_wp2_with fail
            go_quiet (first | (go_at_call 107; exact Calls.quiet_of_same (is_any _ _ (by omega) (by omega))))
            go_wp2_with fail
            go_roundw
            case rel => exact ⟨q + 1, by omega, by go_num, World.grownBy.drewN HG2.out _, p0, p1, p2⟩
            case measure => simp [intOf]; omega
        · clear hg2
          go_wp2_with fail
          go_roundw
          case rel => exact ⟨k + 1, by omega, by go_num, HG2.out⟩
          case measure => simp [intOf]; omega
    · have HG : Hid (W.grownBy wr none) := hg
      clear hg
      go_wp2_with fail
      go_ret
      exact ⟨rfl, HG.out⟩
theorem St.keep {S B h m cap : Nat} {nu : Nat → Nat} {E : Nat → Value} {N : Nat → Nat} {Lg : Nat → Value} {X : Nat → List Value} {w0 W W' : World} {st : Nat → Prop} (s : St S B h m cap nu E N Lg X w0 W) (k : KeepP st W W') (hS : ∀ b, st b → S ≤ b) (hB : ¬ st B) (hh : ¬ st h) (he : ∀ i, i < m → ∀ b, (E i).ownBlock = some b → ¬ st b) : St S B h m cap nu E N Lg X w0 W' where
  sS := Nat.le_trans s.sS k.size
  bB := Nat.lt_of_lt_of_le s.bB k.size
  bh := Nat.lt_of_lt_of_le s.bh k.size
  book := (World.cell?_of_block (w := W) (a := ⟨B, 1, none⟩) (k.block B s.bB hB)).trans s.book
  l := fun i hi => (World.cell?_of_block (w := W) (a := ⟨h, i * 3, none⟩) (k.block h s.bh hh)).trans (s.l i hi)
  g := fun i hi => (World.cell?_of_block (w := W) (a := ⟨h, i * 3 + 1, none⟩) (k.block h s.bh hh)).trans (s.g i hi)
  n := fun i hi => (World.cell?_of_block (w := W) (a := ⟨h, i * 3 + 2, none⟩) (k.block h s.bh hh)).trans (s.n i hi)
  fz := fun j => (World.frozen?_of_block (w := W) (a := ⟨h, j, none⟩) (k.block h s.bh hh)).trans (s.fz j)
  rows := fun i hi => own_keepP (s.rows i hi) k (he i hi)
  below := below_keepP s.below k s.sS hS
theorem Gr.keep {S B h m k : Nat} {nu : Nat → Nat} {E : Nat → Value} {N : Nat → Nat} {Lg : Nat → Value} {W W' : World} {st : Nat → Prop} (gr : Gr S B h m k nu E N Lg W) (kp : KeepP st W W') (hst : ∀ j, j < k → ∀ b, (Lg j).ownBlock = some b → ¬ st b) : Gr S B h m k nu E N Lg W' :=
  ⟨fun j hj => own_keepP (gr.rows j hj) kp (hst j hj), gr.nB, gr.nh, gr.ne⟩
end Go.Proofs.YtehadfidenejdaaGreatDoor.Bb

/-! A Book: its lists of this kind, told and filled. Written by mkbw.py. -/
namespace Go.Proofs.YtehadfidenejdaaGreatDoor.Bw
open Go Go.RowKit
open Go.Proofs.YtehadfidenejdaaGreatDoor.Bq (OwnB own_keepP below_keepP keep_grown keep_below Sep)

theorem Tryz.infoHeldWByte : (Tryz.prog.info? 95).map (fun i => (i.zero, i.size, i.bytes)) = some (some (.agg #[.slice none 0 0, .slice none 0 0, .int .i64 0]), 3, 56) := by kernel_rfl
set_option maxRecDepth 20000 in
set_option maxHeartbeats 2000000 in
theorem tellByte (S B nn m : Nat) (V : Value) (es : List Value) (W : World) (al : Option Addr) (nl cl : Nat) (hm : m ≤ 3000000) (hnn : nn ≤ 5000000) (hn : W.cell? ⟨B, 0, none⟩ = some (.int .i64 (nn : Int))) (hb : W.cell? ⟨B, 1, none⟩ = some V) (hfz : ∀ q, W.frozen? ⟨B, q, none⟩ = false) (hbB : B < W.heap.size) (hSW : S ≤ W.heap.size) (ent : W.ownsRow S 95 3 V m es) (hVB : ∀ k, V.ownBlock = some k → B < k) :
    Calls Tryz.prog 36 #[.pointer (some ⟨B, 0, none⟩), .slice al nl cl] W fun e w' => e = .returned (.tuple #[]) ∧ ∃ g c, Told S B 1 95 nn m V (.slice al nl cl) es W w' g c := by
  obtain ⟨i0, hi, hz0, hz1, hz2⟩ := info_parts Tryz.infoHeldWByte
  obtain ⟨av, cv, rfl⟩ : ∃ av cv, V = .slice av m cv := by
    rcases ent.2 with ⟨h1, h2⟩ | ⟨g, c, _, h1, _⟩
    · exact ⟨none, 0, by rw [h1, h2]⟩
    · exact ⟨some ⟨g, 0, none⟩, c, h1⟩
  have HNC := veil hn
  have HBC := veil hb
  have HV := veil hVB
  have hfz0 := hfz 0
  have hcn := hn
  have hcb := hb
  have hf6 := hfz 1
  have HENT := veil ent
  clear ent hn hb hfz hVB
  go_enter Tryz.func36, Tryz.ntmps36
  go_wp2_with fail
  obtain ⟨W1, hW1⟩ : ∃ W1, W1 = W.setCell ⟨B, 0, none⟩ (.int .i64 ((nn : Int) + 1)) := ⟨_, rfl⟩
  rw [← hW1]
  have hgr0 : W.grownBy W1 (some B) := by
    rw [hW1]
    exact ⟨rfl, rfl, rfl, by simp, fun b _ hb => Below.heap_setCell _ _ _ b (fun e => hb (by rw [e]))⟩
  have hVB : some B ≠ (Value.slice av m cv).ownBlock := by
    intro e
    have := HV.out B e.symm
    omega
  have HE1 := veil (HENT.out.kept hgr0 (.inr (fun e => hVB e.symm)))
  have hn1 : W1.cell? ⟨B, 0, none⟩ = some (.int .i64 ((nn : Int) + 1)) := by rw [hW1]; exact World.cell?_setCell_same _ _ _ HNC.out
  have hb1 : W1.cell? ⟨B, 1, none⟩ = some (.slice av m cv) := by rw [hW1, World.cell?_setCell_other _ _ _ _ (by intro e; injection e; omega)]; exact HBC.out
  have hf1 : W1.frozen? ⟨B, 1, none⟩ = false := by rw [hW1, World.frozen?_setCell]; exact hf6
  have hbB1 : B < W1.heap.size := by rw [hW1]; simpa using hbB
  have HS1 := veil (show W1.heap.size = W.heap.size by rw [hW1]; simp)
  have hS1 : S ≤ W1.heap.size := by rw [HS1.out]; exact hSW
  have hbA : ∀ o, (W1.alloc o).cell? ⟨B, 1, none⟩ = some (.slice av m cv) := fun o => (World.cell?_alloc_old _ _ _ (by show B ≠ _; omega)).trans hb1
  have hfA : ∀ o, (W1.alloc o).frozen? ⟨B, 1, none⟩ = false := fun o => (World.frozen?_of_block (w := W1) (a := ⟨B, 1, none⟩) ((World.grownBy_alloc W1 o none).block B hbB1 (by simp))).trans hf1
  have HW1 := veil hW1
  clear hgr0 hW1 hcn hcb hfz0 hf6 HENT
  go_region_law (refine step_append_lies _ (by rfl) _ _ 41 (by rfl) S 95 i0 _ 3 56 Tryz.underlying41 hi hz0 hz1 hz2 (by rfl) (by decide) (.slice av m cv) m es (by rfl) (by exact (HE1.out.alloc _)) ⟨W1.heap.size, 0, none⟩ 1 1 [.slice al nl cl, .slice none 0 0, .int .i64 ((nn : Int) + 1)] (by rfl) (by rfl) (by exact World.news_of_block (cs := #[.slice al nl cl, .slice none 0 0, .int .i64 ((nn : Int) + 1)]) (fr := (0, 0)) (heap_alloc_new W1 _)) (by simp [Value.oneCell']) (by decide) (by unfold maxLen; omega) (by omega) (by simp; omega) (W1.heap.size + 1) (by simp) ?_; intro g c w1 hown hgrow hat hglt; have hk1 : w1.cell? ⟨B, 1, none⟩ = some (.slice av m cv) := hgrow.cell (a := ⟨B, 1, none⟩) (by exact hbA _) hVB; have hk2 : w1.frozen? ⟨B, 1, none⟩ = false := (World.frozen?_of_block (a := ⟨B, 1, none⟩) (hgrow.block B (by simp; omega) hVB)).trans (by exact hfA _))
  all_goals
    go_wp2_with fail
    go_end0
    have hG := (World.grownBy_alloc W1 (.cells #[.slice al nl cl, .slice none 0 0, .int .i64 ((nn : Int) + 1)] 95) _).trans ⟨hgrow.os, hgrow.tape, hgrow.output, hgrow.size, hgrow.block⟩
    rw [HW1.out] at hG
    exact ⟨rfl, g, c, told_of (by decide) hbB HNC.out HBC.out HV.out hG (by rw [← HS1.out]; exact hat) hown⟩

/-- Some lists of this kind. -/
def kindByte (S B H h m cap : Nat) (nu : Nat → Nat) (E : Nat → Value) (N : Nat → Nat) (X : Nat → List Value) (w0 : World) (hnu : ∀ i, i < m → nu i ≤ 5000000) (hm : m ≤ 3000000) (hN : ∀ i, i < m → N i ≤ 5000000) (sep : Sep S B h m E) (hlow : ∀ i, i < m → ∀ b, (E i).ownBlock = some b → S ≤ b ∧ b < H) (hh : h < H) :
    Kind S B H 52 64 76 (fun b => OwnB m E b ∨ b = h) where
  K := fun i W => match i with
    | 0 => Bb.St S B h m cap nu E N (fun _ => .slice none 0 0) X w0 W
    | 1 => Bb.St S B h m cap nu E N (fun _ => .slice none 0 0) (fun i => List.replicate (N i) (Bb.mark (nu i))) w0 W
    | _ => ∃ Lg, Bb.St S B h m cap nu E N Lg (fun i => List.replicate (N i) (Bb.mark (nu i))) w0 W ∧ Bb.Gr S B h m m nu E N Lg W ∧ ∀ j, j < m → ∀ b, (Lg j).ownBlock = some b → OwnB m E b ∨ H ≤ b
  fill := fun W s => (Bb.fill_any S B h m cap nu E N _ X w0 W hnu hm hN (fun _ _ => rfl) sep s).mono fun _ _ ⟨h1, h2, h3⟩ => ⟨h1, h2, keep_mono h3 fun _ e => .inl e⟩
  grow := fun W s hW => (Bb.bk_grow_any S B h m cap nu E N _ w0 W hnu hm hN (fun _ _ => rfl) sep s).mono fun _ _ ⟨h1, Lg, h2, h3, h4, h5⟩ => ⟨h1, ⟨Lg, h2, h3, fun j hj b e => (h5 j hj b e).imp id (fun q => Nat.le_trans hW q)⟩, h4⟩
  look := fun W ⟨Lg, s, g, _⟩ => Bb.look_any S B h m cap nu E N Lg w0 W hnu hm hN s g
  keep := fun i W W' st' s k hl => by
    have h1 : ∀ b, st' b → S ≤ b := fun b e => (hl b e).1
    have h2 : ¬ st' B := fun e => (hl B e).2.2.2 rfl
    have h3 : ¬ st' h := fun e => (hl h e).2.2.1 (.inr rfl)
    have h4 : ∀ i, i < m → ∀ b, (E i).ownBlock = some b → ¬ st' b := fun i hi b hb e => (hl b e).2.2.1 (.inl ⟨i, hi, hb⟩)
    match i, s with
    | 0, s => exact Bb.St.keep s k h1 h2 h3 h4
    | 1, s => exact Bb.St.keep s k h1 h2 h3 h4
    | _ + 2, ⟨Lg, s, g, q⟩ =>
      refine ⟨Lg, Bb.St.keep s k h1 h2 h3 h4, Bb.Gr.keep g k (fun j hj b hb e => ?_), q⟩
      rcases q j hj b hb with hq | hq
      · exact (hl b e).2.2.1 (.inl hq)
      · have := (hl b e).2.1
        omega
  low := fun b e => by
    rcases e with ⟨i, hi, hb⟩ | rfl
    · exact ⟨(hlow i hi b hb).1, (hlow i hi b hb).2, fun e => sep.eB i hi (by rw [hb, e])⟩
    · exact ⟨sep.Sh, hh, fun e => sep.Bh e.symm⟩

/-- What the book is when its lists of this kind are filled. -/
theorem Hd.stByte {S B m : Nat} {V : Value} {E : Nat → Value} {nu N : Nat → Nat} {X : Nat → List Value} {w0 W : World} (h : Hd S B 1 95 5 1 m V E nu N (fun i => X i) W) (hm : 0 < m) (hSB : S ≤ B) (hbB : B < W.heap.size) (hb : Below S w0 W) :
    ∃ hh cap, Sep S B hh m E ∧ Bb.St S B hh m cap nu E N (fun _ => .slice none 0 0) X w0 W ∧ V.ownBlock = some hh ∧ hh < W.heap.size := by
  obtain ⟨hh, cap, rfl, hSh, hlt⟩ := h.ent.form hm
  have hBh := h.vB hh rfl
  have hcell := h.ent.cells (g := hh) rfl
  have hadd : ∀ q, (⟨hh, 0, none⟩ : Addr).add q = ⟨hh, q, none⟩ := fun q => by rw [Addr.add_lit]; simp
  refine ⟨hh, cap, ⟨hSB, hSh, by omega, fun i hi e => ?_, fun i hi e => ?_, h.ee⟩, ⟨by omega, hbB, hlt, h.b, fun i hi => ?_, fun i hi => ?_, fun i hi => ?_, fun q => h.ent.frozenAt q, h.rows, hb⟩, rfl, hlt⟩
  · exact (h.eB i hi B e).1 rfl
  · exact (h.eB i hi hh e).2 rfl
  · have := hcell (i * 3) _ (entsN_at E nu m i hi).1; rw [hadd] at this; exact this
  · have := hcell (i * 3 + 1) _ (entsN_at E nu m i hi).2.1; rw [hadd] at this; exact this
  · have := hcell (i * 3 + 2) _ (entsN_at E nu m i hi).2.2; rw [hadd] at this; exact this
/-- What this kind keeps to, whether there are lists of it or not. -/
theorem Hd.isByte {S B m : Nat} {V : Value} {E : Nat → Value} {nu N : Nat → Nat} {X : Nat → List Value} {w0 W : World} (h : Hd S B 1 95 5 1 m V E nu N (fun i => X i) W) (hSB : S ≤ B) (hbB : B < W.heap.size) (hb : Below S w0 W) (hm : m ≤ 3000000) (hnu : ∀ i, i < m → nu i ≤ 5000000) (hN : ∀ i, i < m → N i ≤ 5000000) :
    ∃ (st : Nat → Prop) (k : Kind S B W.heap.size 52 64 76 st), k.K 0 W ∧ ∀ b, st b → OwnB m E b ∨ V.ownBlock = some b := by
  rcases Nat.eq_zero_or_pos m with h0 | h0
  · exact ⟨_, noneByte S B W.heap.size, ⟨by rw [h.b, h.nil h0], hbB⟩, fun b e => e.elim⟩
  · obtain ⟨hh, cap, sep, s, hv, hlt⟩ := h.stByte (w0 := w0) h0 hSB hbB hb
    refine ⟨_, kindByte S B W.heap.size hh m cap nu E N X w0 hnu hm hN sep (fun i hi b e => (h.rows i hi).lt b e) hlt, s, fun b e => ?_⟩
    rcases e with e | rfl
    · exact .inl e
    · exact .inr hv
set_option maxRecDepth 20000 in
theorem toldBytes (S B nn m : Nat) (V : Value) (es : List Value) (W : World) (al : Option Addr) (nl cl : Nat) (hm : m ≤ 3000000) (hnn : nn ≤ 5000000) (hn : W.cell? ⟨B, 0, none⟩ = some (.int .i64 (nn : Int))) (hb : W.cell? ⟨B, 1, none⟩ = some V) (hfz : ∀ q, W.frozen? ⟨B, q, none⟩ = false) (hbB : B < W.heap.size) (hSW : S ≤ W.heap.size) (ent : W.ownsRow S 95 3 V m es) (hVB : ∀ k, V.ownBlock = some k → B < k) :
    Calls Tryz.prog 14 #[.pointer (some ⟨B, 0, none⟩), .slice al nl cl] W fun e w' => e = .returned (.tuple #[]) ∧ ∃ g c, Told S B 1 95 nn m V (.slice al nl cl) es W w' g c := by
  have HC := veil (tellByte S B nn m V es W al nl cl hm hnn hn hb hfz hbB hSW ent hVB)
  clear hn hb hfz ent hVB
  go_enter Tryz.func14, Tryz.ntmps14
  go_wp2_with fail
  refine HC.out.mono ?_
  rintro e w' ⟨rfl, h⟩
  go_wp2_with fail
  go_end0
  exact ⟨rfl, h⟩


/-- What this kind keeps to, and whose its blocks are. -/
theorem Kd.isByte {S B nn : Nat} {own : Nat → Prop} {W : World} (h : Kd S B 1 95 5 1 nn (fun _ => True) own W) (hSB : S ≤ B) (hbB : B < W.heap.size) (hnn : nn ≤ 3000000) :
    ∃ (st : Nat → Prop) (k : Kind S B W.heap.size 52 64 76 st), k.K 0 W ∧ ∀ b, st b → own b ∧ (BT W b 5 ∨ BT W b 95) := by
    obtain ⟨m, V, E, nu, N, F, h1, hd, h3, h4, h5, h6⟩ := h
    have hd2 : Hd S B 1 95 5 1 m V E nu N (fun i => F i) W := hd
    obtain ⟨st, k, hk, hs⟩ := hd2.isByte (w0 := W) hSB hbB (Below.refl _ _) (by omega) (fun i hi => Nat.le_trans (h3 i hi) (by omega)) h4
    refine ⟨st, k, hk, fun b e => ?_⟩
    rcases hs b e with q | q
    · obtain ⟨i, hi, e2⟩ := q
      exact ⟨h6 b (.inr ⟨i, hi, e2⟩), .inl (BT.of (hd.rows i hi) e2)⟩
    · exact ⟨h6 b (.inl q), .inr (BT.of hd.ent q)⟩
end Go.Proofs.YtehadfidenejdaaGreatDoor.Bw

/-! The marks of ranges. Written by mkbk.py. -/
namespace Go.Proofs.YtehadfidenejdaaGreatDoor.Bq
open Go Go.RowKit

set_option maxRecDepth 20000 in
set_option maxHeartbeats 400000 in
theorem mark_r (k : Nat) (w : World) (h1 : k ≤ 5000000) :
    Calls Tryz.prog 100 #[.int .i64 (k : Int)] w fun e w' => e = .returned (.agg (rC2 (mk k))) ∧ Below w.heap.size w w' := by
  have e1 : ((mk k).1 : Int) = 1000 + (k : Int) := by unfold mk; simp only; omega
  unfold rC2
  rw [e1]
  have hB : ∀ o u, Below w.heap.size w ((w.alloc o).setCells w.heap.size 0 [.int .u64 u, .int .u64 0]) := fun o u => by
    have q : Below w.heap.size w (((w.alloc o).setCell ⟨w.heap.size, 0, none⟩ (.int .u64 u)).setCell ⟨w.heap.size, 1, none⟩ (.int .u64 0)) := ((((Below.refl _ w).alloc (Nat.le_refl _) o).setCell (p := ⟨w.heap.size, 0, none⟩) (Nat.le_refl _) _).setCell (p := ⟨w.heap.size, 1, none⟩) (Nat.le_refl _) _)
    exact q
  go_enter Tryz.func100, Tryz.ntmps100
  go_wp2
  refine bodyPost_ret (results_cell_row rfl _ _ w.heap.size _ #[.int .u64 (1000 + (k : Int)), .int .u64 ((mk k).2 : Int)] (0, 0) _ rfl (Row.new w 93 _) Tryz.underlying93 rfl (by kernel_rfl)) rfl ?_
  exact ⟨rfl, by first | exact hB _ _ | exact (Below.refl _ w).alloc (Nat.le_refl _) _⟩

theorem mark_l (k : Nat) (w : World) (h1 : k ≤ 5000000) :
    Calls Tryz.prog 100 #[.int .i64 (k : Int)] w fun e w' => e = .returned (.agg #[.int .u64 ((mk k).1 : Int), .int .u64 ((mk k).2 : Int)]) ∧ Below w.heap.size w w' := mark_r k w h1

set_option maxRecDepth 20000 in
set_option maxHeartbeats 400000 in
theorem is_r (k : Nat) (w : World) (h1 : k ≤ 5000000) :
    Calls Tryz.prog 112 #[.agg (rC2 (mk k)), .int .i64 (k : Int)] w fun e w' => e = .returned (.bool true) ∧ Below w.heap.size w w' := by
  have e1 : ((mk k).1 : Int) = 1000 + (k : Int) := by unfold mk; simp only; omega
  unfold rC2
  rw [e1]
  have r0 : Row (w.alloc (.cells #[.int .u64 (1000 + (k : Int)), .int .u64 ((mk k).2 : Int)] 93)) w.heap.size 93 #[.int .u64 (1000 + (k : Int)), .int .u64 ((mk k).2 : Int)] := Row.new _ _ _
  have c0 := r0.cell 0
  have HB := veil (show Below w.heap.size w (w.alloc (.cells #[.int .u64 (1000 + (k : Int)), .int .u64 ((mk k).2 : Int)] 93)) from (Below.refl _ w).alloc (Nat.le_refl _) _)
  clear r0
  go_enter Tryz.func112, Tryz.ntmps112
  go_wp2
  go_ret
  exact ⟨by simp, HB.out⟩

end Go.Proofs.YtehadfidenejdaaGreatDoor.Bq
