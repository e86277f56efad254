/-
  Out of BkRgG, BkRgL, BkByF.
-/
import Derived.Test.YtimhbjlmpojhoaaGreatDoorGg6
import Derived.RangeFuncBox
import Derived.Deep.RegionHeld3
import Derived.Maps.AppendAt
import Derived.ArgAppend
import Derived.BigQuiet
import Derived.Deep.AppendLies
import Derived.Deep.RegionLaw
import Derived.BigRegion

/-! What a Book of lists of ranges does to memory: what is put behind each list. Written by mkbook8b.py out of AeBook.lean. -/
namespace Go.Proofs.YtimhbjlmpojhoaaGreatDoor.Bq
open Go Go.RowKit

theorem Tryz.infoRangeB : (Tryz.prog.info? 114).map (fun i => (i.zero, i.size, i.bytes)) = some (some (.agg #[.int .u64 0, .int .u64 0]), 2, 16) := by kernel_rfl

set_option maxRecDepth 20000 in
set_option maxHeartbeats 4000000 in
theorem bk_grow_any (S B h m cap : Nat) (nu : Nat → Nat) (E : Nat → Value) (N : Nat → Nat) (Lg : Nat → Value) (w0 wF : World) (hnu : ∀ i, i < m → nu i ≤ 5000000) (hm2 : m ≤ 3000000) (hN : ∀ i, i < m → N i ≤ 5000000) (hLg : ∀ i, i < m → Lg i = .slice none 0 0) (sep : Sep S B h m E) (st : St S B h m cap nu E N Lg (fun i => List.replicate (N i) (mk (nu i))) w0 wF) :
    Calls Tryz.prog 50 #[.pointer (some ⟨B, 0, none⟩)] wF fun e w' => e = .returned (.tuple #[]) ∧ ∃ Lg', St S B h m cap nu E N Lg' (fun i => List.replicate (N i) (mk (nu i))) w0 w' ∧ Gr S B h m m nu E N Lg' w' ∧ KeepP (fun b => OwnB m E b ∨ b = h) wF w' ∧ ∀ j, j < m → ∀ b, (Lg' j).ownBlock = some b → OwnB m E b ∨ wF.heap.size ≤ b := by
  obtain ⟨i0, hi, hz0, hz1, hz2⟩ := info_parts Tryz.infoRangeB
  have hc := st.book
  have HST := veil st
  clear st
  go_enter Tryz.func50, Tryz.ntmps50
  go_wp2
  go_loopw [2] (fun i wr => ∃ (k : Nat) (L : Nat → Value), k ≤ m ∧ i = .int .i64 k ∧ St S B h m cap nu E N L (fun i => List.replicate (N i) (mk (nu i))) w0 wr ∧ Gr S B h m k nu E N L wr ∧ (∀ j, k ≤ j → j < m → L j = .slice none 0 0) ∧ KeepP (fun b => OwnB m E b ∨ b = h) wF wr ∧ ∀ j, j < k → ∀ b, (L j).ownBlock = some b → OwnB m E b ∨ wF.heap.size ≤ b) (fun i _ => m - (intOf i).toNat)
  case atStart => exact ⟨0, Lg, Nat.zero_le _, rfl, HST.out, ⟨fun j hj => absurd hj (Nat.not_lt_zero _), fun j hj => absurd hj (Nat.not_lt_zero _), fun j hj => absurd hj (Nat.not_lt_zero _), fun j i hj => absurd hj (Nat.not_lt_zero _)⟩, fun j _ hj => hLg j hj, KeepP.refl _ _, fun j hj => absurd hj (Nat.not_lt_zero _)⟩
  case round =>
    obtain ⟨k, L, hk, rfl, st, gr, hnil, hkp, hlb⟩ := hrel
    have HKP := veil hkp
    have HLB := veil hlb
    clear hkp hlb
    have hcb := st.book
    by_cases hlt : k < m
    · have c0 := st.l k hlt
      have c1 := st.g k hlt
      have c2 := st.n k hlt
      have hNk := hN k hlt
      have hnk := hnu k hlt
      have HSR : Hid (St S B h m cap nu E N L (fun i => List.replicate (N i) (mk (nu i))) w0 wr) := st
      have HGR : Hid (Gr S B h m k nu E N L wr) := gr
      have HNL : Hid (∀ j, k ≤ j → j < m → L j = .slice none 0 0) := hnil
      rw [hnil k (Nat.le_refl _) hlt] at c1
      have hbh := st.bh
      obtain ⟨ao, c, hE⟩ : ∃ ao c, E k = .slice ao (N k) c := by
        rcases bookOwn_shape (st.rows k hlt) with ⟨h1, h2⟩ | ⟨g, c, h1, _⟩
        · exact ⟨none, 0, by rw [h1, h2]⟩
        · exact ⟨some ⟨g, 0, none⟩, c, h1⟩
      have HE : Hid (E k = .slice ao (N k) c) := hE
      rw [hE] at c0
      clear st gr hnil hE
      go_wp2_with fail
      obtain ⟨wo, rfl⟩ : ∃ wo : World, wo = wr := ⟨_, rfl⟩
      have HA := HSR.out.alloc (.cells #[.slice ao (N k) c, .slice none 0 0, .int .i64 (nu k : Int)] 112)
      have HG := HGR.out.grown (World.grownBy_alloc wo (.cells #[.slice ao (N k) c, .slice none 0 0, .int .i64 (nu k : Int)] 112) none) (fun j hj e => by
        rcases (HGR.out.rows j hj).2 with ⟨_, h0⟩ | ⟨g2, c2, _, h2, _⟩
        · omega
        · rw [h2] at e; cases e)
      have HSz : Hid (wo.heap.size + 1 = (wo.alloc (.cells #[.slice ao (N k) c, .slice none 0 0, .int .i64 (nu k : Int)] 112)).heap.size) := by show _ = _; simp
      go_loopw [4, 5] (fun t i wq => ∃ (q : Nat) (ao3 : Option Addr) (c3 : Nat), q ≤ 40 ∧ i = .int .i64 q ∧ t = .slice ao3 (N k + q) c3 ∧ St S B h m cap nu E N L (fun i => List.replicate (N i) (mk (nu i))) w0 wq ∧ Gr S B h m k nu E N L wq ∧
          ((.slice ao3 (N k + q) c3 = E k ∧ q = 0) ∨ (∃ g1 c1, Value.slice ao3 (N k + q) c3 = .slice (some ⟨g1, 0, none⟩) (N k + q) c1 ∧ ((∃ n1, E k = .slice (some ⟨g1, 0, none⟩) n1 c1) ∨ wo.heap.size + 1 ≤ g1))) ∧
          wq.ownsRow S 114 2 (.slice ao3 (N k + q) c3) (N k + q) (vr (List.replicate (N k + q) (mk (nu k)))) ∧ wo.heap.size + 1 ≤ wq.heap.size ∧ wq.cell? ⟨wo.heap.size, 2, none⟩ = some (.int .i64 (nu k : Int)) ∧ KeepP (fun b => OwnB m E b ∨ b = h) wF wq) (fun _ i _ => 40 - (intOf i).toNat)
      case atStart =>
        refine ⟨0, ao, c, Nat.zero_le _, rfl, rfl, HA, HG, .inl ⟨HE.out.symm, rfl⟩, ?_, Nat.le_of_eq HSz.out, by simp, keep_grown HKP.out (World.grownBy_alloc _ _ none) (fun b e => by cases e)⟩
        have := HA.rows k hlt
        rw [HE.out] at this
        exact this
      case round =>
        obtain ⟨q, ao3, c3, hq, rfl, rfl, st2, gr2, hsh, hown, hsz, hp2, hkp2⟩ := hrel
        have HKP2 := veil hkp2
        clear hkp2
        have HS2 : Hid (St S B h m cap nu E N L (fun i => List.replicate (N i) (mk (nu i))) w0 wr) := st2
        have HG2 : Hid (Gr S B h m k nu E N L wr) := gr2
        have HSH : Hid ((.slice ao3 (N k + q) c3 = E k ∧ q = 0) ∨ (∃ g1 c1, Value.slice ao3 (N k + q) c3 = .slice (some ⟨g1, 0, none⟩) (N k + q) c1 ∧ ((∃ n1, E k = .slice (some ⟨g1, 0, none⟩) n1 c1) ∨ wo.heap.size + 1 ≤ g1))) := hsh
        have HOW : Hid (wr.ownsRow S 114 2 (.slice ao3 (N k + q) c3) (N k + q) (vr (List.replicate (N k + q) (mk (nu k))))) := hown
        have hSz2 := st2.sS
        have hbB2 := st2.bB
        clear st2 gr2 hsh hown HA HG HSz
        by_cases hq40 : q < 40
        · go_wp2_with fail
          refine (mark_l (nu k) _ hnk).mono ?_
          rintro e9 w9 ⟨rfl, hb9⟩
          have S9 := HS2.out.belowW hb9
          have G9 : Gr S B h m k nu E N L w9 := HG2.out.grown (row := none) ⟨hb9.os, hb9.tape, hb9.output, hb9.size, fun b hb _ => hb9.block b hb⟩ (fun j hj e => by
            rcases (HG2.out.rows j hj).2 with ⟨_, h0⟩ | ⟨g2, c2, _, h2, _⟩
            · omega
            · rw [h2] at e; cases e)
          have O9 : w9.ownsRow S 114 2 (.slice ao3 (N k + q) c3) (N k + q) (vr (List.replicate (N k + q) (mk (nu k)))) := HOW.out.kept (row := none) ⟨hb9.os, hb9.tape, hb9.output, hb9.size, fun b hb _ => hb9.block b hb⟩ (by
            by_cases h0 : (Value.slice ao3 (N k + q) c3).ownBlock = none
            · exact .inl h0
            · exact .inr h0)
          have hp9 : w9.cell? ⟨wo.heap.size, 2, none⟩ = some (.int .i64 (nu k : Int)) := (World.cell?_of_block (w := wr) (a := ⟨wo.heap.size, 2, none⟩) (hb9.block wo.heap.size (by omega))).trans hp2
          have hsz9 := hb9.size
          have HKP9 := veil (keep_below HKP2.out hb9)
          have HS9 := veil S9
          have HG9 := veil G9
          have HO9 := veil O9
          clear hb9 S9 G9 O9
          go_wp2_with (at_builtin; refine wpList_append_two _ rfl _ _ 35 rfl S 114 i0 (.agg #[.int .u64 0, .int .u64 0]) 2 16 Tryz.underlying35 hi hz0 hz1 hz2 rfl (by decide) _ _ _ rfl (HO9.out.alloc _) ⟨w9.heap.size, 0, none⟩ 1 1 (vr [mk (nu k)]) rfl rfl (by exact World.news_of_block (cs := #[.int .u64 ((mk (nu k)).1 : Int), .int .u64 ((mk (nu k)).2 : Int)]) (fr := (0, 0)) (heap_alloc_new w9 _)) (by simp [vr, mk, Value.oneCell']) (by decide) (by unfold maxLen; omega) (by omega) (by simp; omega) ?_; intro g1 c1 w1 hown1 hat1)
          have hne1 : ∀ n1, E k ≠ .slice (some ⟨wo.heap.size, 0, none⟩) n1 c1 := fun n1 hE1 => by
            have := (HSR.out.rows k hlt).lt wo.heap.size (by rw [hE1]; rfl)
            omega
          obtain ⟨st3, gr3, hpl, how3, hsz3, hcell3⟩ := grow_step (H := wo.heap.size + 1) hlt sep (HS9.out.alloc (.cells #[.int .u64 ((mk (nu k)).1 : Int), .int .u64 ((mk (nu k)).2 : Int)] 114)) (HG9.out.grown (World.grownBy_alloc w9 (.cells #[.int .u64 ((mk (nu k)).1 : Int), .int .u64 ((mk (nu k)).2 : Int)] 114) none) (fun j hj e => by
            rcases (HG9.out.rows j hj).2 with ⟨_, h0⟩ | ⟨g2, c2, _, h2, _⟩
            · omega
            · rw [h2] at e; cases e)) HSH.out (by simp; omega) (by have := HSR.out.bB; omega) (by omega) (fun i hi b hb => by have := (HSR.out.rows i hi).lt b hb; omega) (fun j hj b hb => by have := (HGR.out.rows j hj).lt b hb; omega) hown1 hat1
          have hp3 : w1.cell? ⟨wo.heap.size, 2, none⟩ = some (.int .i64 (nu k : Int)) := by
            rw [hcell3 ⟨wo.heap.size, 2, none⟩ (Nat.lt_succ_self _) hne1]
            exact (World.cell?_alloc_old _ _ _ (by show wo.heap.size ≠ _; omega)).trans hp9
          have HKP4 := veil (show KeepP (fun b => OwnB m E b ∨ b = h) wF w1 by
            have ka := keep_grown HKP9.out (World.grownBy_alloc w9 (.cells #[.int .u64 ((mk (nu k)).1 : Int), .int .u64 ((mk (nu k)).2 : Int)] 114) none) (fun b e => by cases e)
            rcases hat1 with ⟨_, hg⟩ | ⟨_, hg⟩
            · refine keep_grown ka hg (fun b e => ?_)
              injection e with e
              subst e
              rcases hpl with ⟨n1, h1⟩ | h1
              · exact .inl (.inl ⟨k, hlt, by rw [h1]; rfl⟩)
              · exact .inr (by have := HKP.out.size; omega)
            · exact keep_grown ka hg (fun b e => by cases e))
          clear hown1 hat1 hne1 hcell3
          have HS3 : Hid (St S B h m cap nu E N L (fun i => List.replicate (N i) (mk (nu i))) w0 w1) := st3
          have HG3 : Hid (Gr S B h m k nu E N L w1) := gr3
          have HO3 : Hid (w1.ownsRow S 114 2 (.slice (some ⟨g1, 0, none⟩) (N k + (q + 1)) c1) (N k + (q + 1)) (vr (List.replicate (N k + (q + 1)) (mk (nu k))))) := how3
          have HPL : Hid ((∃ n1, E k = .slice (some ⟨g1, 0, none⟩) n1 c1) ∨ wo.heap.size + 1 ≤ g1) := hpl
          clear st3 gr3 how3 hpl
          go_wp2_with fail
          go_roundw
          case rel => exact ⟨q + 1, _, c1, by omega, by go_num, rfl, HS3.out, HG3.out, .inr ⟨g1, c1, rfl, HPL.out⟩, HO3.out, hsz3, hp3, HKP4.out⟩
          case measure => simp [intOf]; omega
        · have hqe : q = 40 := by omega
          subst hqe
          have hcb2 := HS2.out.book
          have hg2 : wr.cell? ⟨h, k * 3 + 1, none⟩ = some (.slice none 0 0) := by rw [HS2.out.g k hlt, HNL.out k (Nat.le_refl _) hlt]
          have hfz2 := HS2.out.fz (k * 3 + 1)
          go_wp2_with fail
          go_roundw
          case rel =>
            refine ⟨k + 1, _, by omega, by go_num, HS2.out.lay sep hlt _, ?_, fun j hj hjm => ?_, keep_grown (row := some h) HKP2.out ⟨rfl, rfl, rfl, by simp, fun b _ hb => Below.heap_setCell _ _ _ b (fun e => hb (by rw [e]))⟩ (fun b e => by injection e with e; subst e; exact .inl (.inr rfl)), fun j hj b e => ?_⟩
            · have hgr : wr.grownBy (wr.setCell ⟨h, k * 3 + 1, none⟩ (.slice ao3 (N k + 40) c3)) (some h) := ⟨rfl, rfl, rfl, by simp, fun b _ hb => Below.heap_setCell _ _ _ b (fun e => hb (by rw [e]))⟩
              have hlg : ∀ j, j < k + 1 → j ≠ k → j < k := fun j h1 h2 => by omega
              obtain ⟨gg, cc, hgg⟩ : ∃ gg cc, Value.slice ao3 (N k + 40) c3 = .slice (some ⟨gg, 0, none⟩) (N k + 40) cc := by
                rcases bookOwn_shape HOW.out with ⟨_, h0⟩ | ⟨gg, cc, h1, _⟩
                · omega
                · exact ⟨gg, cc, h1⟩
              have hplace : (∃ n1, E k = .slice (some ⟨gg, 0, none⟩) n1 cc) ∨ wo.heap.size + 1 ≤ gg := by
                rcases HSH.out with ⟨_, h0⟩ | ⟨g1, c1, h1, h2⟩
                · omega
                · rw [hgg] at h1
                  injection h1 with e1 e2 e3
                  injection e1 with e1
                  injection e1 with e1
                  subst e1 e3
                  exact h2
              have hob : ∀ b, b < wo.heap.size + 1 → (∀ n1, E k ≠ .slice (some ⟨b, 0, none⟩) n1 cc) → (Value.slice ao3 (N k + 40) c3).ownBlock ≠ some b := by
                intro b hb hne e
                rw [hgg] at e
                injection e with e
                subst e
                rcases hplace with ⟨n1, h1⟩ | h1
                · exact hne n1 h1
                · have h2 : gg < wo.heap.size + 1 := hb
                  omega
              have hkB := hob B (by have := HSR.out.bB; omega) (fun n1 hE => sep.eB k hlt (by rw [hE]; rfl))
              have hkh := hob h (by omega) (fun n1 hE => sep.eh k hlt (by rw [hE]; rfl))
              refine ⟨fun j hj => ?_, fun j hj => ?_, fun j hj => ?_, fun j i hj hi hij => ?_⟩
              · by_cases hjk : j = k
                · subst hjk; rw [if_pos rfl]; exact HOW.out.kept hgr (.inr hkh)
                · rw [if_neg hjk]; exact (HG2.out.rows j (hlg j hj hjk)).kept hgr (.inr (HG2.out.nh j (hlg j hj hjk)))
              · by_cases hjk : j = k
                · subst hjk; rw [if_pos rfl]; exact hkB
                · rw [if_neg hjk]; exact HG2.out.nB j (hlg j hj hjk)
              · by_cases hjk : j = k
                · subst hjk; rw [if_pos rfl]; exact hkh
                · rw [if_neg hjk]; exact HG2.out.nh j (hlg j hj hjk)
              · by_cases hjk : j = k
                · subst hjk
                  rw [if_pos rfl]
                  intro e
                  cases hEi : (E i).ownBlock with
                  | none => rw [hEi, hgg] at e; cases e
                  | some b =>
                    rw [hEi] at e
                    refine hob b (by have := (HSR.out.rows i hi).lt b hEi; omega) (fun n1 hE => ?_) e
                    rcases sep.ee i j hi hlt hij with h1 | h1
                    · rw [hEi] at h1; cases h1
                    · exact h1 (by rw [hEi, hE]; rfl)
                · rw [if_neg hjk]; exact HG2.out.ne j i (hlg j hj hjk) hi hij
            · rw [if_neg (by omega)]; exact HNL.out j (by omega) hjm
            · by_cases hjk : j = k
              · rw [if_pos hjk] at e
                rcases HSH.out with ⟨_, h0⟩ | ⟨g1, c1, h1, h2⟩
                · omega
                · rw [h1] at e
                  injection e with e
                  subst e
                  rcases h2 with ⟨n1, h2⟩ | h2
                  · exact .inl ⟨k, hlt, by rw [h2]; rfl⟩
                  · exact .inr (by have := HKP.out.size; have h3 : wo.heap.size + 1 ≤ g1 := h2; show wF.heap.size ≤ g1; omega)
              · rw [if_neg hjk] at e
                exact HLB.out j (by omega) b e
          case measure => simp [intOf]; omega
    · have hkm : k = m := by omega
      subst hkm
      have HSR : Hid (St S B h k cap nu E N L (fun i => List.replicate (N i) (mk (nu i))) w0 wr) := st
      have HGR : Hid (Gr S B h k k nu E N L wr) := gr
      clear st gr hnil
      go_wp2_with fail
      go_end0
      exact ⟨rfl, L, HSR.out, HGR.out, HKP.out, HLB.out⟩
end Go.Proofs.YtimhbjlmpojhoaaGreatDoor.Bq

/-! What a Book of lists of ranges looks at in the end: every mark is there. Written by mklook8.py. -/
namespace Go.Proofs.YtimhbjlmpojhoaaGreatDoor.Bq
open Go Go.RowKit

theorem grown_of_below {w W : World} (hb : Below w.heap.size w W) : w.grownBy W none := ⟨hb.os, hb.tape, hb.output, hb.size, fun k hk _ => hb.block k hk⟩
theorem gr_rep (n q : Nat) (u : Nat × Nat) (h : q < n) : gr (List.replicate n u) q = u := by
  unfold gr
  rw [List.getElem?_replicate, if_pos h]
  rfl
theorem rep_range {W : World} {S g c n q : Nat} {u : Nat × Nat} (h : W.ownsRow S 114 2 (.slice (some ⟨g, 0, none⟩) n c) n (vr (List.replicate n u))) (hq : q < n) : W.rangeAt g (0 + q * 2) (rC2 u).toList := by
  have := own_range h (List.length_replicate ..) q hq
  rwa [gr_rep n q u hq] at this
def depL8 : Nat → List Nat
  | 1 => [0]
  | 3 => [1, 2]
  | 4 => [3]
  | 6 => [5]
  | 7 => [4, 6]
  | 8 => [7]
  | 9 => [8]
  | 10 => [9]
  | 11 => [9]
  | 12 => [9, 11]
  | 13 => [9, 12]
  | 14 => [9, 10, 13]
  | 15 => [9, 14]
  | 16 => [15]
  | 17 => [15, 16]
  | 18 => [15]
  | 19 => [15, 17, 18]
  | 20 => [15, 19]
  | 21 => [15]
  | 22 => [15, 21]
  | 23 => [15, 20, 22]
  | 24 => [15, 23]
  | 25 => [9, 15, 24]
  | 26 => [9, 25]
  | _ => []
def valLT (Hb gg cc g nk c q k : Nat) : Nat → Value
  | 0 => .pointer (some ⟨Hb, 1, none⟩)
  | 1 => .slice (some ⟨gg, 0, none⟩) (nk + 40) cc
  | 2 => .int .i64 (q : Int)
  | 3 => .pointer (some ⟨gg, 0 + q * 2, none⟩)
  | 4 => .agg (rC2 (mk k))
  | 5 => .pointer (some ⟨Hb, 2, none⟩)
  | 6 => .int .i64 (k : Int)
  | 7 => .bool true
  | 8 => .bool false
  | 9 => .bool false
  | 10 => .int .i64 (q : Int)
  | 11 => .pointer (some ⟨Hb, 0, none⟩)
  | 12 => .slice (some ⟨g, 0, none⟩) nk c
  | 13 => .int .i64 (nk : Int)
  | 14 => .bool true
  | 15 => .bool true
  | 16 => .pointer (some ⟨Hb, 0, none⟩)
  | 17 => .slice (some ⟨g, 0, none⟩) nk c
  | 18 => .int .i64 (q : Int)
  | 19 => .pointer (some ⟨g, 0 + q * 2, none⟩)
  | 20 => .agg (rC2 (mk k))
  | 21 => .pointer (some ⟨Hb, 2, none⟩)
  | 22 => .int .i64 (k : Int)
  | 23 => .bool true
  | 24 => .bool false
  | 25 => .bool false
  | _ => .bool false
def valLU (Hb gg cc nk c q k : Nat) (ao : Option Addr) : Nat → Value
  | 0 => .pointer (some ⟨Hb, 1, none⟩)
  | 1 => .slice (some ⟨gg, 0, none⟩) (nk + 40) cc
  | 2 => .int .i64 (q : Int)
  | 3 => .pointer (some ⟨gg, 0 + q * 2, none⟩)
  | 4 => .agg (rC2 (mk k))
  | 5 => .pointer (some ⟨Hb, 2, none⟩)
  | 6 => .int .i64 (k : Int)
  | 7 => .bool true
  | 8 => .bool false
  | 9 => .bool false
  | 10 => .int .i64 (q : Int)
  | 11 => .pointer (some ⟨Hb, 0, none⟩)
  | 12 => .slice ao nk c
  | 13 => .int .i64 (nk : Int)
  | 14 => .bool false
  | 15 => .bool false
  | 16 => undef
  | 17 => undef
  | 18 => undef
  | 19 => undef
  | 20 => undef
  | 21 => undef
  | 22 => undef
  | 23 => undef
  | 24 => undef
  | 25 => .bool false
  | _ => .bool false

set_option maxRecDepth 20000 in
set_option maxHeartbeats 1000000 in
theorem look_any (S B h m cap : Nat) (nu : Nat → Nat) (E : Nat → Value) (N : Nat → Nat) (Lg : Nat → Value) (w0 wL : World) (hnu : ∀ i, i < m → nu i ≤ 5000000) (hm2 : m ≤ 3000000) (hN : ∀ i, i < m → N i ≤ 5000000) (st : St S B h m cap nu E N Lg (fun i => List.replicate (N i) (mk (nu i))) w0 wL) (gr : Gr S B h m m nu E N Lg wL) :
    Calls Tryz.prog 62 #[.pointer (some ⟨B, 0, none⟩)] wL fun e w' => e = .returned (.bool true) ∧ wL.grownBy w' none := by
  have HST := veil st
  have HGR := veil gr
  have hc := st.book
  have hbB := st.bB
  have hbh := st.bh
  clear st gr
  refine (callsIn_wide (n := 4)).1 ?_
  refine callsIn_of_wp Tryz.func62 rfl trivial ?_ rfl
  simp only [Tryz.ntmps62, List.size_toArray, List.length_cons, List.length_nil, Nat.reduceAdd, Nat.reduceSub, Array.replicate_succ, Array.replicate_zero, List.push_toArray, List.append_toArray, List.nil_append, List.cons_append]
  gi_wp2_with fail
  gi_loopw [3] (fun i wr => ∃ k : Nat, k ≤ m ∧ i = .int .i64 k ∧ wL.grownBy wr none) (fun i _ => m - (intOf i).toNat)
  case atStart => exact ⟨0, Nat.zero_le _, rfl, rfl, rfl, rfl, Nat.le_refl _, fun _ _ _ => rfl⟩
  case round =>
    obtain ⟨k, hk, rfl, hg⟩ := hrel
    have hcb : wr.cell? ⟨B, 6, none⟩ = some (.slice (some ⟨h, 0, none⟩) m cap) := hg.cell hc (by simp)
    have hsz := hg.size
    by_cases hlt : k < m
    · obtain ⟨ao, c, hE⟩ : ∃ ao c, E k = .slice ao (N k) c := by
        rcases bookOwn_shape (HST.out.rows k hlt) with ⟨h1, h2⟩ | ⟨g, c, h1, _⟩
        · exact ⟨none, 0, by rw [h1, h2]⟩
        · exact ⟨some ⟨g, 0, none⟩, c, h1⟩
      obtain ⟨gg, cc, hL⟩ : ∃ gg cc, Lg k = .slice (some ⟨gg, 0, none⟩) (N k + 40) cc := by
        rcases bookOwn_shape (HGR.out.rows k hlt) with ⟨_, h0⟩ | ⟨gg, cc, h1, _⟩
        · omega
        · exact ⟨gg, cc, h1⟩
      have HE := veil hE
      have HL := veil hL
      have c0 : wr.cell? ⟨h, k * 3, none⟩ = some (.slice ao (N k) c) := (hg.cell (HST.out.l k hlt) (by simp)).trans (by rw [hE])
      have c1 : wr.cell? ⟨h, k * 3 + 1, none⟩ = some (.slice (some ⟨gg, 0, none⟩) (N k + 40) cc) := (hg.cell (HST.out.g k hlt) (by simp)).trans (by rw [hL])
      have c2 : wr.cell? ⟨h, k * 3 + 2, none⟩ = some (.int .i64 (nu k : Int)) := hg.cell (HST.out.n k hlt) (by simp)
      have hNk := hN k hlt
      have hkm : nu k ≤ 5000000 := hnu k hlt
      have HG := veil hg
      have hne : decide (((N k + 40 : Nat) : Int) = ((N k : Nat) : Int) + 40) = true := by simp
      clear hg hE hL
      gi_wp2_with fail
      obtain ⟨wo, rfl⟩ : ∃ wo : World, wo = wr := ⟨_, rfl⟩
      have HA := veil (show wL.grownBy (wo.alloc (.cells #[.slice ao (N k) c, .slice (some ⟨gg, 0, none⟩) (N k + 40) cc, .int .i64 (nu k : Int)] 112)) none from HG.out.trans (World.grownBy_alloc _ _ _))
      gi_loopw [5] (fun i wq => ∃ q : Nat, q ≤ N k + 40 ∧ i = .int .i64 q ∧ wL.grownBy wq none ∧ wq.cell? ⟨wo.heap.size, 0, none⟩ = some (.slice ao (N k) c) ∧ wq.cell? ⟨wo.heap.size, 1, none⟩ = some (.slice (some ⟨gg, 0, none⟩) (N k + 40) cc) ∧ wq.cell? ⟨wo.heap.size, 2, none⟩ = some (.int .i64 (nu k : Int)) ∧ wo.heap.size < wq.heap.size) (fun i _ => N k + 40 - (intOf i).toNat)
      case atStart => exact ⟨0, Nat.zero_le _, rfl, HA.out, by simp, by simp, by simp, by simp⟩
      case round =>
        obtain ⟨q, hq, rfl, hg2, p0, p1, p2, hsq⟩ := hrel
        have HG2 := veil hg2
        clear HA
        by_cases hq2 : q < N k + 40
        · have rowL : ∀ W', wL.grownBy W' none → W'.ownsRow S 114 2 (.slice (some ⟨gg, 0, none⟩) (N k + 40) cc) (N k + 40) (vr (List.replicate (N k + 40) (mk (nu k)))) := by
            intro W' hb
            have := HGR.out.rows k hlt
            rw [HL.out] at this
            exact this.kept hb (.inr (by simp [Value.ownBlock]))
          have i1 : (0 : Int) ≤ (q : Int) := by omega
          have i2 : (q : Int) < ((N k + 40 : Nat) : Int) := by omega
          by_cases hq3 : q < N k
          · obtain ⟨g, hao⟩ : ∃ g, ao = some ⟨g, 0, none⟩ := by
              rcases bookOwn_shape (HST.out.rows k hlt) with ⟨h1, h2⟩ | ⟨g, c4, h1, _⟩
              · omega
              · rw [HE.out] at h1; injection h1 with e1 e2 e3; exact ⟨g, e1⟩
            subst hao
            have rowE : ∀ W', wL.grownBy W' none → W'.ownsRow S 114 2 (.slice (some ⟨g, 0, none⟩) (N k) c) (N k) (vr (List.replicate (N k) (mk (nu k)))) := by
              intro W' hb
              have := HST.out.rows k hlt
              rw [HE.out] at this
              exact this.kept hb (.inr (by simp [Value.ownBlock]))
            clear hg2
            gi_wp2_with fail
            refine wpIn_region_any (by kernel_rfl) ?_
            refine anyIn_vals2 (w0 := wr) (valLT wo.heap.size gg cc g (N k) c q (nu k)) [37, 38, 39, 40, 41, 42, 43, 44, 45, 46, 47, 48, 49, 50, 51, 52, 53, 54, 55, 56, 57, 58, 59, 60, 61, 62, 63] depL8 (by kernel_rfl) rfl (by decide) ((Below.refl _ _).drew) ?step3 ?done3
            case step3 =>
              intro x W ii d hW hdi hdep
              have gW : wL.grownBy W none := HG2.out.trans (grown_of_below hW)
              have b0 := (World.cell?_of_block (w := wr) (a := ⟨wo.heap.size, 0, none⟩) (hW.block wo.heap.size hsq)).trans p0
              have b1 := (World.cell?_of_block (w := wr) (a := ⟨wo.heap.size, 1, none⟩) (hW.block wo.heap.size hsq)).trans p1
              have b2 := (World.cell?_of_block (w := wr) (a := ⟨wo.heap.size, 2, none⟩) (hW.block wo.heap.size hsq)).trans p2
              have rg1 : W.rangeAt gg (0 + q * 2) (rC2 (mk (nu k))).toList := rep_range (rowL W gW) hq2
              have rg2 : W.rangeAt g (0 + q * 2) (rC2 (mk (nu k))).toList := rep_range (rowE W gW) hq3
              clear hW gW
              match ii, hdi, hdep with
              | 0, hdi, _ =>
                obtain rfl := Option.some.inj hdi
                exact OI_value rfl rfl (about_none (by intro c h; cases h)) (by intro c h; cases h) (.pointer (some ⟨wo.heap.size, 1, none⟩)) W (by kernel_rfl) ⟨rfl, Below.refl _ _⟩
              | 1, hdi, hdep =>
                obtain rfl := Option.some.inj hdi
                rw [updV_self (hdep 0 (by simp [depL8]))]
                exact OI_value rfl rfl (about_none (by intro c h; cases h)) (by intro c h; cases h) (.slice (some ⟨gg, 0, none⟩) ((N k) + 40) cc) W (run_cellB 35 _ ⟨wo.heap.size, 1, none⟩ _ _ rfl (by kernel_rfl) Tryz.underlying35 rfl W b1) ⟨rfl, Below.refl _ _⟩
              | 2, hdi, _ =>
                obtain rfl := Option.some.inj hdi
                exact OI_value rfl rfl (about_none (by intro c h; cases h)) (by intro c h; cases h) (.int .i64 (q : Int)) W (by kernel_rfl) ⟨rfl, Below.refl _ _⟩
              | 3, hdi, hdep =>
                obtain rfl := Option.some.inj hdi
                rw [updV_self (hdep 1 (by simp [depL8])), updV_self (show updV x 1 _ 2 = _ from hdep 2 (by simp [depL8]))]
                exact OI_value rfl rfl (about_none (by intro c h; cases h)) (by intro c h; cases h) (.pointer (some ⟨gg, 0 + q * 2, none⟩)) W (run_atR 35 114 2 _ _ gg 0 (N k + 40) cc q rfl (by kernel_rfl) (by kernel_rfl) Tryz.underlying35 (by kernel_rfl) hq2 W) ⟨rfl, Below.refl _ _⟩
              | 4, hdi, hdep =>
                obtain rfl := Option.some.inj hdi
                rw [updV_self (hdep 3 (by simp [depL8]))]
                exact OI_value rfl rfl (about_none (by intro c h; cases h)) (by intro c h; cases h) (.agg (rC2 (mk (nu k)))) W (run_midR 114 _ gg (0 + q * 2) (rC2 (mk (nu k))) _ rfl (by kernel_rfl) Tryz.underlying114 rfl (by kernel_rfl) W rg1) ⟨rfl, Below.refl _ _⟩
              | 5, hdi, _ =>
                obtain rfl := Option.some.inj hdi
                exact OI_value rfl rfl (about_none (by intro c h; cases h)) (by intro c h; cases h) (.pointer (some ⟨wo.heap.size, 2, none⟩)) W (by kernel_rfl) ⟨rfl, Below.refl _ _⟩
              | 6, hdi, hdep =>
                obtain rfl := Option.some.inj hdi
                rw [updV_self (hdep 5 (by simp [depL8]))]
                exact OI_value rfl rfl (about_none (by intro c h; cases h)) (by intro c h; cases h) (.int .i64 (nu k : Int)) W (run_cellB 3 _ ⟨wo.heap.size, 2, none⟩ _ _ rfl (by kernel_rfl) Tryz.underlying3 rfl W b2) ⟨rfl, Below.refl _ _⟩
              | 7, hdi, hdep =>
                obtain rfl := Option.some.inj hdi
                rw [updV_self (hdep 4 (by simp [depL8])), updV_self (show updV x 4 _ 6 = _ from hdep 6 (by simp [depL8]))]
                refine OI_call rfl rfl (by intro c h; cases h) 107 #[.agg (rC2 (mk (nu k))), .int .i64 (nu k : Int)] (fun _ _ => trivial) (by kernel_rfl) (by decide) ?_
                refine (callsIn_wide.2 (is_r (nu k) W hkm)).mono ?_
                rintro e w' ⟨rfl, hb'⟩
                exact ⟨_, rfl, rfl, hb'⟩
              | 8, hdi, hdep =>
                obtain rfl := Option.some.inj hdi
                rw [updV_self (hdep 7 (by simp [depL8]))]
                exact OI_value rfl rfl (about_none (by intro c h; cases h)) (by intro c h; cases h) (.bool false) W (by kernel_rfl) ⟨rfl, Below.refl _ _⟩
              | 9, hdi, hdep =>
                obtain rfl := Option.some.inj hdi
                rw [updV_self (hdep 8 (by simp [depL8]))]
                exact OI_value rfl rfl (about_none (by intro c h; cases h)) (by intro c h; cases h) (.bool false) W (by kernel_rfl) ⟨rfl, Below.refl _ _⟩
              | 10, hdi, hdep =>
                obtain rfl := Option.some.inj hdi
                rw [updV_self (hdep 9 (by simp [depL8]))]
                with_reducible refine OI_value2 ?_ ?_ ?_ ?_ (.int .i64 (q : Int)) W ?_ ?_
                · decide
                · kernel_rfl
                · exact about_none (by intro c h; cases h)
                · intro c h; cases h
                · kernel_rfl
                · exact ⟨rfl, Below.refl _ _⟩
              | 11, hdi, hdep =>
                obtain rfl := Option.some.inj hdi
                rw [updV_self (hdep 9 (by simp [depL8]))]
                with_reducible refine OI_value2 ?_ ?_ ?_ ?_ (.pointer (some ⟨wo.heap.size, 0, none⟩)) W ?_ ?_
                · decide
                · kernel_rfl
                · exact about_none (by intro c h; cases h)
                · intro c h; cases h
                · kernel_rfl
                · exact ⟨rfl, Below.refl _ _⟩
              | 12, hdi, hdep =>
                obtain rfl := Option.some.inj hdi
                rw [updV_self (hdep 9 (by simp [depL8])), updV_self (show updV x 9 _ 11 = _ from hdep 11 (by simp [depL8]))]
                with_reducible refine OI_value2 ?_ ?_ ?_ ?_ (.slice (some ⟨g, 0, none⟩) (N k) c) W ?_ ?_
                · decide
                · kernel_rfl
                · exact about_none (by intro c h; cases h)
                · intro c h; cases h
                · exact run_cellB 35 _ ⟨wo.heap.size, 0, none⟩ _ _ rfl (by kernel_rfl) Tryz.underlying35 rfl W b0
                · exact ⟨rfl, Below.refl _ _⟩
              | 13, hdi, hdep =>
                obtain rfl := Option.some.inj hdi
                rw [updV_self (hdep 9 (by simp [depL8])), updV_self (show updV x 9 _ 12 = _ from hdep 12 (by simp [depL8]))]
                with_reducible refine OI_value2 ?_ ?_ ?_ ?_ (.int .i64 ((N k) : Int)) W ?_ ?_
                · decide
                · kernel_rfl
                · exact about_builtin _ _ _ rfl
                · intro c h; cases h
                · exact run_lenB _ 35 114 (some ⟨g, 0, none⟩) (N k) c rfl (by kernel_rfl) W Tryz.underlying35
                · exact ⟨rfl, Below.refl _ _⟩
              | 14, hdi, hdep =>
                obtain rfl := Option.some.inj hdi
                rw [updV_self (hdep 9 (by simp [depL8])), updV_self (show updV x 9 _ 10 = _ from hdep 10 (by simp [depL8])), updV_self (show updV (updV x 9 _) 10 _ 13 = _ from hdep 13 (by simp [depL8]))]
                with_reducible refine OI_value2 ?_ ?_ ?_ ?_ (.bool true) W ?_ ?_
                · decide
                · kernel_rfl
                · exact about_none (by intro c h; cases h)
                · intro c h; cases h
                · exact run_lssI8 3 3 _ _ q (N k) true (by simp; omega) rfl (by kernel_rfl) (by kernel_rfl) W
                · exact ⟨rfl, Below.refl _ _⟩
              | 15, hdi, hdep =>
                obtain rfl := Option.some.inj hdi
                rw [updV_self (hdep 9 (by simp [depL8])), updV_self (show updV x 9 _ 14 = _ from hdep 14 (by simp [depL8]))]
                with_reducible refine OI_value2 ?_ ?_ ?_ ?_ (.bool true) W ?_ ?_
                · decide
                · kernel_rfl
                · exact about_none (by intro c h; cases h)
                · intro c h; cases h
                · kernel_rfl
                · exact ⟨rfl, Below.refl _ _⟩
              | 16, hdi, hdep =>
                obtain rfl := Option.some.inj hdi
                rw [updV_self (hdep 15 (by simp [depL8]))]
                with_reducible refine OI_value2 ?_ ?_ ?_ ?_ (.pointer (some ⟨wo.heap.size, 0, none⟩)) W ?_ ?_
                · decide
                · kernel_rfl
                · exact about_none (by intro c h; cases h)
                · intro c h; cases h
                · kernel_rfl
                · exact ⟨rfl, Below.refl _ _⟩
              | 17, hdi, hdep =>
                obtain rfl := Option.some.inj hdi
                rw [updV_self (hdep 15 (by simp [depL8])), updV_self (show updV x 15 _ 16 = _ from hdep 16 (by simp [depL8]))]
                with_reducible refine OI_value2 ?_ ?_ ?_ ?_ (.slice (some ⟨g, 0, none⟩) (N k) c) W ?_ ?_
                · decide
                · kernel_rfl
                · exact about_none (by intro c h; cases h)
                · intro c h; cases h
                · exact run_cellB 35 _ ⟨wo.heap.size, 0, none⟩ _ _ rfl (by kernel_rfl) Tryz.underlying35 rfl W b0
                · exact ⟨rfl, Below.refl _ _⟩
              | 18, hdi, hdep =>
                obtain rfl := Option.some.inj hdi
                rw [updV_self (hdep 15 (by simp [depL8]))]
                with_reducible refine OI_value2 ?_ ?_ ?_ ?_ (.int .i64 (q : Int)) W ?_ ?_
                · decide
                · kernel_rfl
                · exact about_none (by intro c h; cases h)
                · intro c h; cases h
                · kernel_rfl
                · exact ⟨rfl, Below.refl _ _⟩
              | 19, hdi, hdep =>
                obtain rfl := Option.some.inj hdi
                rw [updV_self (hdep 15 (by simp [depL8])), updV_self (show updV x 15 _ 17 = _ from hdep 17 (by simp [depL8])), updV_self (show updV (updV x 15 _) 17 _ 18 = _ from hdep 18 (by simp [depL8]))]
                with_reducible refine OI_value2 ?_ ?_ ?_ ?_ (.pointer (some ⟨g, 0 + q * 2, none⟩)) W ?_ ?_
                · decide
                · kernel_rfl
                · exact about_none (by intro c h; cases h)
                · intro c h; cases h
                · exact run_atR 35 114 2 _ _ g 0 (N k) c q rfl (by kernel_rfl) (by kernel_rfl) Tryz.underlying35 (by kernel_rfl) hq3 W
                · exact ⟨rfl, Below.refl _ _⟩
              | 20, hdi, hdep =>
                obtain rfl := Option.some.inj hdi
                rw [updV_self (hdep 15 (by simp [depL8])), updV_self (show updV x 15 _ 19 = _ from hdep 19 (by simp [depL8]))]
                with_reducible refine OI_value2 ?_ ?_ ?_ ?_ (.agg (rC2 (mk (nu k)))) W ?_ ?_
                · decide
                · kernel_rfl
                · exact about_none (by intro c h; cases h)
                · intro c h; cases h
                · exact run_midR 114 _ g (0 + q * 2) (rC2 (mk (nu k))) _ rfl (by kernel_rfl) Tryz.underlying114 rfl (by kernel_rfl) W rg2
                · exact ⟨rfl, Below.refl _ _⟩
              | 21, hdi, hdep =>
                obtain rfl := Option.some.inj hdi
                rw [updV_self (hdep 15 (by simp [depL8]))]
                with_reducible refine OI_value2 ?_ ?_ ?_ ?_ (.pointer (some ⟨wo.heap.size, 2, none⟩)) W ?_ ?_
                · decide
                · kernel_rfl
                · exact about_none (by intro c h; cases h)
                · intro c h; cases h
                · kernel_rfl
                · exact ⟨rfl, Below.refl _ _⟩
              | 22, hdi, hdep =>
                obtain rfl := Option.some.inj hdi
                rw [updV_self (hdep 15 (by simp [depL8])), updV_self (show updV x 15 _ 21 = _ from hdep 21 (by simp [depL8]))]
                with_reducible refine OI_value2 ?_ ?_ ?_ ?_ (.int .i64 (nu k : Int)) W ?_ ?_
                · decide
                · kernel_rfl
                · exact about_none (by intro c h; cases h)
                · intro c h; cases h
                · exact run_cellB 3 _ ⟨wo.heap.size, 2, none⟩ _ _ rfl (by kernel_rfl) Tryz.underlying3 rfl W b2
                · exact ⟨rfl, Below.refl _ _⟩
              | 23, hdi, hdep =>
                obtain rfl := Option.some.inj hdi
                rw [updV_self (hdep 15 (by simp [depL8])), updV_self (show updV x 15 _ 20 = _ from hdep 20 (by simp [depL8])), updV_self (show updV (updV x 15 _) 20 _ 22 = _ from hdep 22 (by simp [depL8]))]
                with_reducible refine OI_call2 ?_ ?_ ?_ 107 #[.agg (rC2 (mk (nu k))), .int .i64 (nu k : Int)] ?_ ?_ ?_ ?_
                · decide
                · kernel_rfl
                · intro c h; cases h
                · exact fun _ _ => trivial
                · kernel_rfl
                · decide
                · refine (callsIn_wide.2 (is_r (nu k) W hkm)).mono ?_
                  rintro e w' ⟨rfl, hb'⟩
                  exact ⟨_, rfl, rfl, hb'⟩
              | 24, hdi, hdep =>
                obtain rfl := Option.some.inj hdi
                rw [updV_self (hdep 15 (by simp [depL8])), updV_self (show updV x 15 _ 23 = _ from hdep 23 (by simp [depL8]))]
                with_reducible refine OI_value2 ?_ ?_ ?_ ?_ (.bool false) W ?_ ?_
                · decide
                · kernel_rfl
                · exact about_none (by intro c h; cases h)
                · intro c h; cases h
                · kernel_rfl
                · exact ⟨rfl, Below.refl _ _⟩
              | 25, hdi, hdep =>
                obtain rfl := Option.some.inj hdi
                rw [updV_self (hdep 9 (by simp [depL8])), updV_self (show updV x 9 _ 15 = _ from hdep 15 (by simp [depL8])), updV_self (show updV (updV x 9 _) 15 _ 24 = _ from hdep 24 (by simp [depL8]))]
                with_reducible refine OI_value2 ?_ ?_ ?_ ?_ (.bool false) W ?_ ?_
                · decide
                · kernel_rfl
                · exact about_none (by intro c h; cases h)
                · intro c h; cases h
                · kernel_rfl
                · exact ⟨rfl, Below.refl _ _⟩
              | 26, hdi, hdep =>
                obtain rfl := Option.some.inj hdi
                rw [updV_self (hdep 9 (by simp [depL8])), updV_self (show updV x 9 _ 25 = _ from hdep 25 (by simp [depL8]))]
                exact OI_value rfl rfl (about_none (by intro c h; cases h)) (by intro c h; cases h) (.bool false) W (by kernel_rfl) ⟨rfl, Below.refl _ _⟩
              | _ + 27, hdi, _ => simp at hdi
            case done3 =>
              intro W hW
              have HGW := veil (HG2.out.trans (grown_of_below hW))
              have b0 := (World.cell?_of_block (w := wr) (a := ⟨wo.heap.size, 0, none⟩) (hW.block wo.heap.size hsq)).trans p0
              have b1 := (World.cell?_of_block (w := wr) (a := ⟨wo.heap.size, 1, none⟩) (hW.block wo.heap.size hsq)).trans p1
              have b2 := (World.cell?_of_block (w := wr) (a := ⟨wo.heap.size, 2, none⟩) (hW.block wo.heap.size hsq)).trans p2
              have hsW := hW.size
              have hsz2 : wo.heap.size < W.heap.size := by omega
              clear hW hsW
              simp only [putsV, valLT, Act.put, List.setIfInBounds_toArray, List.set_cons_succ, List.set_cons_zero, Nat.reduceAdd]
              gi_wp2_with fail
              go_roundw
              case rel => exact ⟨q + 1, by omega, by go_num, HGW.out, b0, b1, b2, hsz2⟩
              case measure => simp [intOf]; omega
          · clear hg2
            gi_wp2_with fail
            refine wpIn_region_any (by kernel_rfl) ?_
            refine anyIn_vals2 (w0 := wr) (valLU wo.heap.size gg cc (N k) c q (nu k) ao) [37, 38, 39, 40, 41, 42, 43, 44, 45, 46, 47, 48, 49, 50, 51, 52, 53, 54, 55, 56, 57, 58, 59, 60, 61, 62, 63] depL8 (by kernel_rfl) rfl (by decide) ((Below.refl _ _).drew) ?step3 ?done3
            case step3 =>
              intro x W ii d hW hdi hdep
              have gW : wL.grownBy W none := HG2.out.trans (grown_of_below hW)
              have b0 := (World.cell?_of_block (w := wr) (a := ⟨wo.heap.size, 0, none⟩) (hW.block wo.heap.size hsq)).trans p0
              have b1 := (World.cell?_of_block (w := wr) (a := ⟨wo.heap.size, 1, none⟩) (hW.block wo.heap.size hsq)).trans p1
              have b2 := (World.cell?_of_block (w := wr) (a := ⟨wo.heap.size, 2, none⟩) (hW.block wo.heap.size hsq)).trans p2
              have rg1 : W.rangeAt gg (0 + q * 2) (rC2 (mk (nu k))).toList := rep_range (rowL W gW) hq2
              clear hW gW
              match ii, hdi, hdep with
              | 0, hdi, _ =>
                obtain rfl := Option.some.inj hdi
                exact OI_value rfl rfl (about_none (by intro c h; cases h)) (by intro c h; cases h) (.pointer (some ⟨wo.heap.size, 1, none⟩)) W (by kernel_rfl) ⟨rfl, Below.refl _ _⟩
              | 1, hdi, hdep =>
                obtain rfl := Option.some.inj hdi
                rw [updV_self (hdep 0 (by simp [depL8]))]
                exact OI_value rfl rfl (about_none (by intro c h; cases h)) (by intro c h; cases h) (.slice (some ⟨gg, 0, none⟩) ((N k) + 40) cc) W (run_cellB 35 _ ⟨wo.heap.size, 1, none⟩ _ _ rfl (by kernel_rfl) Tryz.underlying35 rfl W b1) ⟨rfl, Below.refl _ _⟩
              | 2, hdi, _ =>
                obtain rfl := Option.some.inj hdi
                exact OI_value rfl rfl (about_none (by intro c h; cases h)) (by intro c h; cases h) (.int .i64 (q : Int)) W (by kernel_rfl) ⟨rfl, Below.refl _ _⟩
              | 3, hdi, hdep =>
                obtain rfl := Option.some.inj hdi
                rw [updV_self (hdep 1 (by simp [depL8])), updV_self (show updV x 1 _ 2 = _ from hdep 2 (by simp [depL8]))]
                exact OI_value rfl rfl (about_none (by intro c h; cases h)) (by intro c h; cases h) (.pointer (some ⟨gg, 0 + q * 2, none⟩)) W (run_atR 35 114 2 _ _ gg 0 (N k + 40) cc q rfl (by kernel_rfl) (by kernel_rfl) Tryz.underlying35 (by kernel_rfl) hq2 W) ⟨rfl, Below.refl _ _⟩
              | 4, hdi, hdep =>
                obtain rfl := Option.some.inj hdi
                rw [updV_self (hdep 3 (by simp [depL8]))]
                exact OI_value rfl rfl (about_none (by intro c h; cases h)) (by intro c h; cases h) (.agg (rC2 (mk (nu k)))) W (run_midR 114 _ gg (0 + q * 2) (rC2 (mk (nu k))) _ rfl (by kernel_rfl) Tryz.underlying114 rfl (by kernel_rfl) W rg1) ⟨rfl, Below.refl _ _⟩
              | 5, hdi, _ =>
                obtain rfl := Option.some.inj hdi
                exact OI_value rfl rfl (about_none (by intro c h; cases h)) (by intro c h; cases h) (.pointer (some ⟨wo.heap.size, 2, none⟩)) W (by kernel_rfl) ⟨rfl, Below.refl _ _⟩
              | 6, hdi, hdep =>
                obtain rfl := Option.some.inj hdi
                rw [updV_self (hdep 5 (by simp [depL8]))]
                exact OI_value rfl rfl (about_none (by intro c h; cases h)) (by intro c h; cases h) (.int .i64 (nu k : Int)) W (run_cellB 3 _ ⟨wo.heap.size, 2, none⟩ _ _ rfl (by kernel_rfl) Tryz.underlying3 rfl W b2) ⟨rfl, Below.refl _ _⟩
              | 7, hdi, hdep =>
                obtain rfl := Option.some.inj hdi
                rw [updV_self (hdep 4 (by simp [depL8])), updV_self (show updV x 4 _ 6 = _ from hdep 6 (by simp [depL8]))]
                refine OI_call rfl rfl (by intro c h; cases h) 107 #[.agg (rC2 (mk (nu k))), .int .i64 (nu k : Int)] (fun _ _ => trivial) (by kernel_rfl) (by decide) ?_
                refine (callsIn_wide.2 (is_r (nu k) W hkm)).mono ?_
                rintro e w' ⟨rfl, hb'⟩
                exact ⟨_, rfl, rfl, hb'⟩
              | 8, hdi, hdep =>
                obtain rfl := Option.some.inj hdi
                rw [updV_self (hdep 7 (by simp [depL8]))]
                exact OI_value rfl rfl (about_none (by intro c h; cases h)) (by intro c h; cases h) (.bool false) W (by kernel_rfl) ⟨rfl, Below.refl _ _⟩
              | 9, hdi, hdep =>
                obtain rfl := Option.some.inj hdi
                rw [updV_self (hdep 8 (by simp [depL8]))]
                exact OI_value rfl rfl (about_none (by intro c h; cases h)) (by intro c h; cases h) (.bool false) W (by kernel_rfl) ⟨rfl, Below.refl _ _⟩
              | 10, hdi, hdep =>
                obtain rfl := Option.some.inj hdi
                rw [updV_self (hdep 9 (by simp [depL8]))]
                with_reducible refine OI_value2 ?_ ?_ ?_ ?_ (.int .i64 (q : Int)) W ?_ ?_
                · decide
                · kernel_rfl
                · exact about_none (by intro c h; cases h)
                · intro c h; cases h
                · kernel_rfl
                · exact ⟨rfl, Below.refl _ _⟩
              | 11, hdi, hdep =>
                obtain rfl := Option.some.inj hdi
                rw [updV_self (hdep 9 (by simp [depL8]))]
                with_reducible refine OI_value2 ?_ ?_ ?_ ?_ (.pointer (some ⟨wo.heap.size, 0, none⟩)) W ?_ ?_
                · decide
                · kernel_rfl
                · exact about_none (by intro c h; cases h)
                · intro c h; cases h
                · kernel_rfl
                · exact ⟨rfl, Below.refl _ _⟩
              | 12, hdi, hdep =>
                obtain rfl := Option.some.inj hdi
                rw [updV_self (hdep 9 (by simp [depL8])), updV_self (show updV x 9 _ 11 = _ from hdep 11 (by simp [depL8]))]
                with_reducible refine OI_value2 ?_ ?_ ?_ ?_ (.slice ao (N k) c) W ?_ ?_
                · decide
                · kernel_rfl
                · exact about_none (by intro c h; cases h)
                · intro c h; cases h
                · exact run_cellB 35 _ ⟨wo.heap.size, 0, none⟩ _ _ rfl (by kernel_rfl) Tryz.underlying35 rfl W b0
                · exact ⟨rfl, Below.refl _ _⟩
              | 13, hdi, hdep =>
                obtain rfl := Option.some.inj hdi
                rw [updV_self (hdep 9 (by simp [depL8])), updV_self (show updV x 9 _ 12 = _ from hdep 12 (by simp [depL8]))]
                with_reducible refine OI_value2 ?_ ?_ ?_ ?_ (.int .i64 ((N k) : Int)) W ?_ ?_
                · decide
                · kernel_rfl
                · exact about_builtin _ _ _ rfl
                · intro c h; cases h
                · exact run_lenB _ 35 114 ao (N k) c rfl (by kernel_rfl) W Tryz.underlying35
                · exact ⟨rfl, Below.refl _ _⟩
              | 14, hdi, hdep =>
                obtain rfl := Option.some.inj hdi
                rw [updV_self (hdep 9 (by simp [depL8])), updV_self (show updV x 9 _ 10 = _ from hdep 10 (by simp [depL8])), updV_self (show updV (updV x 9 _) 10 _ 13 = _ from hdep 13 (by simp [depL8]))]
                with_reducible refine OI_value2 ?_ ?_ ?_ ?_ (.bool false) W ?_ ?_
                · decide
                · kernel_rfl
                · exact about_none (by intro c h; cases h)
                · intro c h; cases h
                · exact run_lssI8 3 3 _ _ q (N k) false (by simp; omega) rfl (by kernel_rfl) (by kernel_rfl) W
                · exact ⟨rfl, Below.refl _ _⟩
              | 15, hdi, hdep =>
                obtain rfl := Option.some.inj hdi
                rw [updV_self (hdep 9 (by simp [depL8])), updV_self (show updV x 9 _ 14 = _ from hdep 14 (by simp [depL8]))]
                with_reducible refine OI_value2 ?_ ?_ ?_ ?_ (.bool false) W ?_ ?_
                · decide
                · kernel_rfl
                · exact about_none (by intro c h; cases h)
                · intro c h; cases h
                · kernel_rfl
                · exact ⟨rfl, Below.refl _ _⟩
              | 16, hdi, hdep =>
                obtain rfl := Option.some.inj hdi
                rw [updV_self (hdep 15 (by simp [depL8]))]
                with_reducible refine OI_off2 ?_ ?_ ?_ ?_
                · decide
                · kernel_rfl
                · exact fun _ _ => trivial
                · exact ⟨rfl, Below.refl _ _⟩
              | 17, hdi, hdep =>
                obtain rfl := Option.some.inj hdi
                rw [updV_self (hdep 15 (by simp [depL8])), updV_self (show updV x 15 _ 16 = _ from hdep 16 (by simp [depL8]))]
                with_reducible refine OI_off2 ?_ ?_ ?_ ?_
                · decide
                · kernel_rfl
                · exact fun _ _ => trivial
                · exact ⟨rfl, Below.refl _ _⟩
              | 18, hdi, hdep =>
                obtain rfl := Option.some.inj hdi
                rw [updV_self (hdep 15 (by simp [depL8]))]
                with_reducible refine OI_off2 ?_ ?_ ?_ ?_
                · decide
                · kernel_rfl
                · exact fun _ _ => trivial
                · exact ⟨rfl, Below.refl _ _⟩
              | 19, hdi, hdep =>
                obtain rfl := Option.some.inj hdi
                rw [updV_self (hdep 15 (by simp [depL8])), updV_self (show updV x 15 _ 17 = _ from hdep 17 (by simp [depL8])), updV_self (show updV (updV x 15 _) 17 _ 18 = _ from hdep 18 (by simp [depL8]))]
                with_reducible refine OI_off2 ?_ ?_ ?_ ?_
                · decide
                · kernel_rfl
                · exact fun _ _ => trivial
                · exact ⟨rfl, Below.refl _ _⟩
              | 20, hdi, hdep =>
                obtain rfl := Option.some.inj hdi
                rw [updV_self (hdep 15 (by simp [depL8])), updV_self (show updV x 15 _ 19 = _ from hdep 19 (by simp [depL8]))]
                with_reducible refine OI_off2 ?_ ?_ ?_ ?_
                · decide
                · kernel_rfl
                · exact fun _ _ => trivial
                · exact ⟨rfl, Below.refl _ _⟩
              | 21, hdi, hdep =>
                obtain rfl := Option.some.inj hdi
                rw [updV_self (hdep 15 (by simp [depL8]))]
                with_reducible refine OI_off2 ?_ ?_ ?_ ?_
                · decide
                · kernel_rfl
                · exact fun _ _ => trivial
                · exact ⟨rfl, Below.refl _ _⟩
              | 22, hdi, hdep =>
                obtain rfl := Option.some.inj hdi
                rw [updV_self (hdep 15 (by simp [depL8])), updV_self (show updV x 15 _ 21 = _ from hdep 21 (by simp [depL8]))]
                with_reducible refine OI_off2 ?_ ?_ ?_ ?_
                · decide
                · kernel_rfl
                · exact fun _ _ => trivial
                · exact ⟨rfl, Below.refl _ _⟩
              | 23, hdi, hdep =>
                obtain rfl := Option.some.inj hdi
                rw [updV_self (hdep 15 (by simp [depL8])), updV_self (show updV x 15 _ 20 = _ from hdep 20 (by simp [depL8])), updV_self (show updV (updV x 15 _) 20 _ 22 = _ from hdep 22 (by simp [depL8]))]
                with_reducible refine OI_off2 ?_ ?_ ?_ ?_
                · decide
                · kernel_rfl
                · exact fun _ _ => trivial
                · exact ⟨rfl, Below.refl _ _⟩
              | 24, hdi, hdep =>
                obtain rfl := Option.some.inj hdi
                rw [updV_self (hdep 15 (by simp [depL8])), updV_self (show updV x 15 _ 23 = _ from hdep 23 (by simp [depL8]))]
                with_reducible refine OI_off2 ?_ ?_ ?_ ?_
                · decide
                · kernel_rfl
                · exact fun _ _ => trivial
                · exact ⟨rfl, Below.refl _ _⟩
              | 25, hdi, hdep =>
                obtain rfl := Option.some.inj hdi
                rw [updV_self (hdep 9 (by simp [depL8])), updV_self (show updV x 9 _ 15 = _ from hdep 15 (by simp [depL8])), updV_self (show updV (updV x 9 _) 15 _ 24 = _ from hdep 24 (by simp [depL8]))]
                with_reducible refine OI_value2 ?_ ?_ ?_ ?_ (.bool false) W ?_ ?_
                · decide
                · kernel_rfl
                · exact about_none (by intro c h; cases h)
                · intro c h; cases h
                · kernel_rfl
                · exact ⟨rfl, Below.refl _ _⟩
              | 26, hdi, hdep =>
                obtain rfl := Option.some.inj hdi
                rw [updV_self (hdep 9 (by simp [depL8])), updV_self (show updV x 9 _ 25 = _ from hdep 25 (by simp [depL8]))]
                exact OI_value rfl rfl (about_none (by intro c h; cases h)) (by intro c h; cases h) (.bool false) W (by kernel_rfl) ⟨rfl, Below.refl _ _⟩
              | _ + 27, hdi, _ => simp at hdi
            case done3 =>
              intro W hW
              have HGW := veil (HG2.out.trans (grown_of_below hW))
              have b0 := (World.cell?_of_block (w := wr) (a := ⟨wo.heap.size, 0, none⟩) (hW.block wo.heap.size hsq)).trans p0
              have b1 := (World.cell?_of_block (w := wr) (a := ⟨wo.heap.size, 1, none⟩) (hW.block wo.heap.size hsq)).trans p1
              have b2 := (World.cell?_of_block (w := wr) (a := ⟨wo.heap.size, 2, none⟩) (hW.block wo.heap.size hsq)).trans p2
              have hsW := hW.size
              have hsz2 : wo.heap.size < W.heap.size := by omega
              clear hW hsW
              simp only [putsV, valLU, Act.put, List.setIfInBounds_toArray, List.set_cons_succ, List.set_cons_zero, Nat.reduceAdd]
              gi_wp2_with fail
              go_roundw
              case rel => exact ⟨q + 1, by omega, by go_num, HGW.out, b0, b1, b2, hsz2⟩
              case measure => simp [intOf]; omega
        · clear hg2
          gi_wp2_with fail
          go_roundw
          case rel => exact ⟨k + 1, by omega, by go_num, HG2.out⟩
          case measure => simp [intOf]; omega
    · have HG := veil hg
      clear hg
      gi_wp2_with fail
      go_ret
      exact ⟨rfl, HG.out⟩
end Go.Proofs.YtimhbjlmpojhoaaGreatDoor.Bq

/-! A Book of several kinds: its lists of bytes. Written by mkbkb.py out of AeBook.lean. -/
namespace Go.Proofs.YtimhbjlmpojhoaaGreatDoor.Bb
open Go Go.RowKit
open Go.Proofs.YtimhbjlmpojhoaaGreatDoor.Bq (OwnB keep_grown keep_below own_keepP below_keepP Sep)

/-- The mark of the list with this place, as it is written. -/
def mark (n : Nat) : Value := .int .u8 (1 + (n : Int) % 250)

set_option maxHeartbeats 400000 in
theorem mark_any (n : Int) (w : World) (h0 : 0 ≤ n) (h1 : n ≤ 5000000) :
    Calls Tryz.prog 90 #[.int .i64 n] w fun e w' => e = .returned (.int .u8 (1 + n % 250)) ∧ w' = w := by
  go_enter Tryz.func90, Tryz.ntmps90
  go_wp2
  go_ret
  exact ⟨rfl, rfl⟩

/-- The book holds m lists in block h; each owns its elements; old memory is as it was. -/
structure St (S B h m cap : Nat) (nu : Nat → Nat) (E : Nat → Value) (N : Nat → Nat) (Lg : Nat → Value) (X : Nat → List Value) (w0 W : World) : Prop where
  sS : S ≤ W.heap.size
  bB : B < W.heap.size
  bh : h < W.heap.size
  book : W.cell? ⟨B, 1, none⟩ = some (.slice (some ⟨h, 0, none⟩) m cap)
  l : ∀ i, i < m → W.cell? ⟨h, i * 3, none⟩ = some (E i)
  g : ∀ i, i < m → W.cell? ⟨h, i * 3 + 1, none⟩ = some (Lg i)
  n : ∀ i, i < m → W.cell? ⟨h, i * 3 + 2, none⟩ = some (.int .i64 (nu i : Int))
  fz : ∀ j, W.frozen? ⟨h, j, none⟩ = false
  rows : ∀ i, i < m → W.ownsRow S 5 1 (E i) (N i) (X i)
  below : Below S w0 W

theorem St.grown {S B h m cap : Nat} {nu : Nat → Nat} {E : Nat → Value} {N : Nat → Nat} {Lg : Nat → Value} {X : Nat → List Value} {w0 W W' : World} {row : Option Nat} (st : St S B h m cap nu E N Lg X w0 W) (hg : W.grownBy W' row)
    (hS : ∀ k, row = some k → S ≤ k) (hB : row ≠ some B) (hh : row ≠ some h) (he : ∀ i, i < m → (E i).ownBlock = none ∨ (E i).ownBlock ≠ row) : St S B h m cap nu E N Lg X w0 W' where
  sS := Nat.le_trans st.sS hg.size
  bB := Nat.lt_of_lt_of_le st.bB hg.size
  bh := Nat.lt_of_lt_of_le st.bh hg.size
  book := hg.cell st.book (fun e => hB e.symm)
  l := fun i hi => hg.cell (st.l i hi) (fun e => hh e.symm)
  g := fun i hi => hg.cell (st.g i hi) (fun e => hh e.symm)
  n := fun i hi => hg.cell (st.n i hi) (fun e => hh e.symm)
  fz := fun j => (World.frozen?_of_block (w := W) (a := ⟨h, j, none⟩) (hg.block h st.bh (fun e => hh e.symm))).trans (st.fz j)
  rows := fun i hi => (st.rows i hi).kept hg (he i hi)
  below := st.below.grown hg st.sS hS

theorem St.alloc {S B h m cap : Nat} {nu : Nat → Nat} {E : Nat → Value} {N : Nat → Nat} {Lg : Nat → Value} {X : Nat → List Value} {w0 W : World} (st : St S B h m cap nu E N Lg X w0 W) (o : Obj) : St S B h m cap nu E N Lg X w0 (W.alloc o) :=
  st.grown (World.grownBy_alloc W o none) (fun _ e => by cases e) (by simp) (by simp) (fun i _ => by
    by_cases h : (E i).ownBlock = none
    · exact .inl h
    · exact .inr h)

theorem St.drew {S B h m cap : Nat} {nu : Nat → Nat} {E : Nat → Value} {N : Nat → Nat} {Lg : Nat → Value} {X : Nat → List Value} {w0 W : World} (st : St S B h m cap nu E N Lg X w0 W) : St S B h m cap nu E N Lg X w0 W.drew :=
  ⟨st.sS, st.bB, st.bh, st.book, st.l, st.g, st.n, st.fz, st.rows, st.below.drew⟩

/-- One element of one list is written. -/
theorem St.store {S B h m cap : Nat} {nu : Nat → Nat} {E : Nat → Value} {N : Nat → Nat} {Lg : Nat → Value} {X : Nat → List Value} {w0 W : World} (st : St S B h m cap nu E N Lg X w0 W) (sep : Sep S B h m E) {i g c : Nat} (hi : i < m) (he : E i = .slice (some ⟨g, 0, none⟩) (N i) c) (k : Nat) (u : Value) :
    St S B h m cap nu E N Lg (fun j => if j = i then (X i).set k u else X j) w0 (W.setCell ⟨g, k, none⟩ u) := by
  have hob : (E i).ownBlock = some g := by rw [he]; rfl
  have hSg : S ≤ g := ((st.rows i hi).lt g hob).1
  have hgr : W.grownBy (W.setCell ⟨g, k, none⟩ u) (some g) := ⟨rfl, rfl, rfl, by simp, fun b _ hb => Below.heap_setCell _ _ _ b (fun e => hb (by rw [e]))⟩
  have hgB : some g ≠ some B := fun e => sep.eB i hi (hob.trans e)
  have hgh : some g ≠ some h := fun e => sep.eh i hi (hob.trans e)
  refine ⟨Nat.le_trans st.sS hgr.size, Nat.lt_of_lt_of_le st.bB hgr.size, Nat.lt_of_lt_of_le st.bh hgr.size, hgr.cell st.book (fun e => hgB e.symm), fun j hj => hgr.cell (st.l j hj) (fun e => hgh e.symm), fun j hj => hgr.cell (st.g j hj) (fun e => hgh e.symm), fun j hj => hgr.cell (st.n j hj) (fun e => hgh e.symm), fun j => (World.frozen?_of_block (w := W) (a := ⟨h, j, none⟩) (hgr.block h st.bh (fun e => hgh e.symm))).trans (st.fz j), fun j hj => ?_, st.below.setCell (p := ⟨g, k, none⟩) hSg u⟩
  by_cases hji : j = i
  · subst hji
    rw [if_pos rfl]
    have hr := st.rows j hj
    rw [he] at hr ⊢
    exact (hr.stored k u).1
  · rw [if_neg hji]
    refine (st.rows j hj).kept hgr ?_
    rcases sep.ee j i hj hi hji with h | h
    · exact .inl h
    · exact .inr (by rw [← hob]; exact h)

/-- What a value that owns a row looks like. -/
theorem bookOwn_shape {W : World} {S : Nat} {v : Value} {n : Nat} {xs : List Value} (h : W.ownsRow S 5 1 v n xs) : (v = .slice none 0 0 ∧ n = 0) ∨ ∃ g c, v = .slice (some ⟨g, 0, none⟩) n c ∧ n ≤ c := by
  rcases h.2 with ⟨h1, h2⟩ | ⟨g, c, _, h1, _, _, h2, _⟩
  · exact .inl ⟨h1, h2⟩
  · exact .inr ⟨g, c, h1, h2⟩

theorem set_step (xs : List Value) (k n : Nat) (u : Value) (hl : xs.length = n) (hk : k < n) (h : xs.take k = List.replicate k u) : (xs.set k u).take (k + 1) = List.replicate (k + 1) u := by
  have hk2 : k < (xs.set k u).length := by rw [List.length_set]; omega
  rw [List.take_succ_eq_append_getElem hk2, List.getElem_set_self, List.take_set_of_le (Nat.le_refl _), h, List.replicate_succ']

set_option maxHeartbeats 4000000 in
theorem fill_any (S B h m cap : Nat) (nu : Nat → Nat) (E : Nat → Value) (N : Nat → Nat) (Lg : Nat → Value) (X : Nat → List Value) (w0 wF : World) (hnu : ∀ i, i < m → nu i ≤ 5000000) (hm2 : m ≤ 3000000) (hN : ∀ i, i < m → N i ≤ 5000000) (hLg : ∀ i, i < m → Lg i = .slice none 0 0) (sep : Sep S B h m E) (st : St S B h m cap nu E N Lg X w0 wF) :
    Calls Tryz.prog 33 #[.pointer (some ⟨B, 0, none⟩)] wF fun e w' => e = .returned (.tuple #[]) ∧ St S B h m cap nu E N Lg (fun i => List.replicate (N i) (mark (nu i))) w0 w' ∧ KeepP (Bq.OwnB m E) wF w' := by
  have hc := st.book
  have HST := veil st
  clear st
  go_enter Tryz.func33, Tryz.ntmps33
  go_wp2
  go_loopw [2] (fun i wr => ∃ (k : Nat) (Y : Nat → List Value), k ≤ m ∧ i = .int .i64 k ∧ St S B h m cap nu E N Lg Y w0 wr ∧ (∀ j, j < k → Y j = List.replicate (N j) (mark (nu j))) ∧ KeepP (Bq.OwnB m E) wF wr) (fun i _ => m - (intOf i).toNat)
  case atStart => exact ⟨0, X, Nat.zero_le _, rfl, HST.out, fun j hj => absurd hj (Nat.not_lt_zero _), KeepP.refl _ _⟩
  case round =>
    obtain ⟨k, Y, hk, rfl, st, hY, hkp⟩ := hrel
    have HKP := veil hkp
    clear hkp
    have hcb := st.book
    by_cases hlt : k < m
    · have c0 := st.l k hlt
      have c1 := st.g k hlt
      have c2 := st.n k hlt
      have hNk := hN k hlt
      have hnk := hnu k hlt
      have HSR : Hid (St S B h m cap nu E N Lg Y w0 wr) := st
      have HY : Hid (∀ j, j < k → Y j = List.replicate (N j) (mark (nu j))) := hY
      rw [hLg k hlt] at c1
      have hlen := (st.rows k hlt).1
      rw [Nat.mul_one] at hlen
      have hbh := st.bh
      rcases bookOwn_shape (st.rows k hlt) with ⟨hv, hn⟩ | ⟨g, c, hv, hnc⟩
      · rw [hv] at c0
        clear st hY
        go_wp2
        refine wp_loop_rounds 1 ?_
        rw [rounds_succ]
        go_wp2
        go_roundw
        case rel =>
          refine ⟨k + 1, Y, by omega, by go_num, HSR.out.alloc _, fun j hj => ?_, keep_grown HKP.out (World.grownBy_alloc _ _ none) (fun b e => by cases e)⟩
          rcases Nat.lt_or_ge j k with h1 | h1
          · exact HY.out j h1
          · obtain rfl : j = k := by omega
            rw [hn, List.replicate_zero]
            exact List.eq_nil_of_length_eq_zero (by rw [hlen, hn])
        case measure => simp [intOf]; omega
      · rw [hv] at c0
        have hgl : g < wr.heap.size := ((st.rows k hlt).lt g (by rw [hv]; rfl)).2
        clear st hY
        go_wp2
        obtain ⟨wo, rfl⟩ : ∃ wo : World, wo = wr := ⟨_, rfl⟩
        have HA := HSR.out.alloc (.cells #[.slice (some ⟨g, 0, none⟩) (N k) c, .slice none 0 0, .int .i64 (nu k : Int)] 95)
        go_loopw [4] (fun i wq => ∃ (q : Nat) (Z : List Value), q ≤ N k ∧ i = .int .i64 q ∧ St S B h m cap nu E N Lg (fun j => if j = k then Z else Y j) w0 wq ∧ Z.length = N k ∧ Z.take q = List.replicate q (mark (nu k)) ∧ wq.cell? ⟨wo.heap.size, 0, none⟩ = some (.slice (some ⟨g, 0, none⟩) (N k) c) ∧ wq.cell? ⟨wo.heap.size, 2, none⟩ = some (.int .i64 (nu k : Int)) ∧ KeepP (Bq.OwnB m E) wF wq) (fun i _ => N k - (intOf i).toNat)
        case atStart =>
          refine ⟨0, Y k, Nat.zero_le _, rfl, ?_, hlen, rfl, by simp, by simp, keep_grown HKP.out (World.grownBy_alloc _ _ none) (fun b e => by cases e)⟩
          have e : (fun j => if j = k then Y k else Y j) = Y := by
            funext j
            by_cases hj : j = k
            · rw [if_pos hj, hj]
            · rw [if_neg hj]
          rw [e]
          exact HA
        case round =>
          obtain ⟨q, Z, hq, rfl, st2, hZl, hZ, hp0, hp2, hkp2⟩ := hrel
          have HKP2 := veil hkp2
          clear hkp2
          have HS2 : Hid (St S B h m cap nu E N Lg (fun j => if j = k then Z else Y j) w0 wr) := st2
          by_cases hqn : q < N k
          · have hrow := st2.rows k hlt
            simp only [if_true] at hrow
            rw [hv] at hrow
            have hcg : wr.cell? ⟨g, q, none⟩ = some (Z[q]'(by omega)) := by rw [hrow.cellAt q (by omega), List.getElem?_eq_getElem]
            have hfg := hrow.frozenAt q
            obtain ⟨old, hold⟩ : ∃ old, wr.cell? ⟨g, q, none⟩ = some old := ⟨_, hcg⟩
            have HZ : Hid (Z.take q = List.replicate q (mark (nu k))) := hZ
            have HZl : Hid (Z.length = N k) := hZl
            have i1 : (0 : Int) ≤ (q : Int) := by omega
            have i2 : (q : Int) < (N k : Int) := by omega
            have hk0 : ∀ u, (wr.setCell ⟨g, q, none⟩ u).cell? ⟨wo.heap.size, 0, none⟩ = some (.slice (some ⟨g, 0, none⟩) (N k) c) := fun u => (World.cell?_of_block (w := wr) (a := ⟨wo.heap.size, 0, none⟩) (Below.heap_setCell wr ⟨g, q, none⟩ u wo.heap.size (by show wo.heap.size ≠ g; omega))).trans hp0
            have hk2 : ∀ u, (wr.setCell ⟨g, q, none⟩ u).cell? ⟨wo.heap.size, 2, none⟩ = some (.int .i64 (nu k : Int)) := fun u => (World.cell?_of_block (w := wr) (a := ⟨wo.heap.size, 2, none⟩) (Below.heap_setCell wr ⟨g, q, none⟩ u wo.heap.size (by show wo.heap.size ≠ g; omega))).trans hp2
            clear st2 hrow hcg hZ hZl HA
            go_wp2
            go_region_held3 (fun w' => w'.cell? ⟨wo.heap.size, 0, none⟩ = some (.slice (some ⟨g, 0, none⟩) (N k) c) ∧ w'.cell? ⟨wo.heap.size, 2, none⟩ = some (.int .i64 (nu k : Int))) (first | go_keep | exact ⟨hk0 _, hk2 _⟩) (first | (go_at_call 90; refine (mark_any _ _ (by omega) (by omega)).mono ?_; rintro e9 w9 ⟨rfl, rfl⟩))
            go_wp2
            go_roundw
            case rel =>
              have hst := (HS2.out.store sep hlt hv q (mark (nu k))).drew
              simp only [if_true] at hst
              have e : (fun j => if j = k then Z.set q (mark (nu k)) else if j = k then Z else Y j) = (fun j => if j = k then Z.set q (mark (nu k)) else Y j) := by
                funext j
                by_cases hj : j = k
                · rw [if_pos hj, if_pos hj]
                · rw [if_neg hj, if_neg hj, if_neg hj]
              rw [e] at hst
              exact ⟨q + 1, Z.set q (mark (nu k)), by omega, by go_num, hst, by rw [List.length_set]; exact HZl.out, set_step Z q (N k) (mark (nu k)) HZl.out hqn HZ.out, hk0 _, hk2 _, keep_grown (row := some g) HKP2.out ⟨rfl, rfl, rfl, by simp, fun b _ hb => Below.heap_setCell _ _ _ b (fun e => hb (by rw [e]))⟩ (fun b e => by injection e with e; subst e; exact .inl ⟨k, hlt, by rw [hv]; rfl⟩)⟩
            case measure => simp [intOf]; omega
          · have hqe : q = N k := by omega
            have HZF : Hid (Z = List.replicate (N k) (mark (nu k))) := by
              rw [hqe, List.take_of_length_le (by omega)] at hZ
              exact hZ
            clear st2 hZ hZl HA
            go_wp2
            go_roundw
            case rel =>
              refine ⟨k + 1, _, by omega, by go_num, HS2.out, fun j hj => ?_, HKP2.out⟩
              by_cases hjk : j = k
              · simp only [hjk, if_true]; exact HZF.out
              · simp only [hjk, if_false]; exact HY.out j (by omega)
            case measure => simp [intOf]; omega
    · have hkm : k = m := by omega
      subst hkm
      have HSR : Hid (St S B h k cap nu E N Lg Y w0 wr) := st
      have HY : Hid (∀ j, j < k → Y j = List.replicate (N j) (mark (nu j))) := hY
      clear st hY
      go_wp2
      go_end0
      have hst := HSR.out
      refine ⟨rfl, ⟨hst.sS, hst.bB, hst.bh, hst.book, hst.l, hst.g, hst.n, hst.fz, fun i hi => ?_, hst.below⟩, HKP.out⟩
      have := hst.rows i hi
      rw [HY.out i hi] at this
      exact this
end Go.Proofs.YtimhbjlmpojhoaaGreatDoor.Bb
