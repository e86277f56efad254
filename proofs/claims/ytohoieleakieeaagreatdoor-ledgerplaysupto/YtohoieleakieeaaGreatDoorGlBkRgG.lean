/-
  What a Book of lists of ranges does to memory: what is put behind each list. Written by mkbook8b.py out of AeBook.lean.
-/
import Derived.Test.YtohoieleakieeaaGreatDoorGlBkRgM
namespace Go.Proofs.YtohoieleakieeaaGreatDoor.Bq
open Go Go.RowKit

theorem Tryz.infoRangeB : (Tryz.prog.info? 63).map (fun i => (i.zero, i.size, i.bytes)) = some (some (.agg #[.int .u64 0, .int .u64 0]), 2, 16) := by kernel_rfl

set_option maxRecDepth 20000 in
set_option maxHeartbeats 4000000 in
theorem bk_grow_any (S B h m cap : Nat) (nu : Nat → Nat) (E : Nat → Value) (N : Nat → Nat) (Lg : Nat → Value) (w0 wF : World) (hnu : ∀ i, i < m → nu i ≤ 5000000) (hm2 : m ≤ 3000000) (hN : ∀ i, i < m → N i ≤ 5000000) (hLg : ∀ i, i < m → Lg i = .slice none 0 0) (sep : Sep S B h m E) (st : St S B h m cap nu E N Lg (fun i => List.replicate (N i) (mk (nu i))) w0 wF) :
    Calls Tryz.prog 65 #[.pointer (some ⟨B, 0, none⟩)] wF fun e w' => e = .returned (.tuple #[]) ∧ ∃ Lg', St S B h m cap nu E N Lg' (fun i => List.replicate (N i) (mk (nu i))) w0 w' ∧ Gr S B h m m nu E N Lg' w' ∧ KeepP (fun b => OwnB m E b ∨ b = h) wF w' ∧ ∀ j, j < m → ∀ b, (Lg' j).ownBlock = some b → OwnB m E b ∨ wF.heap.size ≤ b := by
  obtain ⟨i0, hi, hz0, hz1, hz2⟩ := info_parts Tryz.infoRangeB
  have hc := st.book
  have HST := veil st
  clear st
  go_enter Tryz.func65, Tryz.ntmps65
  go_wp2
  go_loopw [2] (fun i wr => ∃ (k : Nat) (L : Nat → Value), k ≤ m ∧ i = .int .i64 k ∧ St S B h m cap nu E N L (fun i => List.replicate (N i) (mk (nu i))) w0 wr ∧ Gr S B h m k nu E N L wr ∧ (∀ j, k ≤ j → j < m → L j = .slice none 0 0) ∧ KeepP (fun b => OwnB m E b ∨ b = h) wF wr ∧ ∀ j, j < k → ∀ b, (L j).ownBlock = some b → OwnB m E b ∨ wF.heap.size ≤ b) (fun i _ => m - (intOf i).toNat)
  case atStart => exact ⟨0, Lg, Nat.zero_le _, rfl, HST.out, ⟨fun j hj => absurd hj (Nat.not_lt_zero _), fun j hj => absurd hj (Nat.not_lt_zero _), fun j hj => absurd hj (Nat.not_lt_zero _), fun j i hj => absurd hj (Nat.not_lt_zero _)⟩, fun j _ hj => hLg j hj, KeepP.refl _ _, fun j hj => absurd hj (Nat.not_lt_zero _)⟩
  case round =>
    obtain ⟨k, L, hk, rfl, st, gr, hnil, hkp, hlb⟩ := hrel
    have HKP := veil hkp
    have HLB := veil hlb
    clear hkp hlb
    have hcb := st.book
    by_cases hlt : k < m
    · have c0 := st.l k hlt
      have c1 := st.g k hlt
      have c2 := st.n k hlt
      have hNk := hN k hlt
      have hnk := hnu k hlt
      have HSR : Hid (St S B h m cap nu E N L (fun i => List.replicate (N i) (mk (nu i))) w0 wr) := st
      have HGR : Hid (Gr S B h m k nu E N L wr) := gr
      have HNL : Hid (∀ j, k ≤ j → j < m → L j = .slice none 0 0) := hnil
      rw [hnil k (Nat.le_refl _) hlt] at c1
      have hbh := st.bh
      obtain ⟨ao, c, hE⟩ : ∃ ao c, E k = .slice ao (N k) c := by
        rcases bookOwn_shape (st.rows k hlt) with ⟨h1, h2⟩ | ⟨g, c, h1, _⟩
        · exact ⟨none, 0, by rw [h1, h2]⟩
        · exact ⟨some ⟨g, 0, none⟩, c, h1⟩
      have HE : Hid (E k = .slice ao (N k) c) := hE
      rw [hE] at c0
      clear st gr hnil hE
      go_wp2_with fail
      obtain ⟨wo, rfl⟩ : ∃ wo : World, wo = wr := ⟨_, rfl⟩
      have HA := HSR.out.alloc (.cells #[.slice ao (N k) c, .slice none 0 0, .int .i64 (nu k : Int)] 100)
      have HG := HGR.out.grown (World.grownBy_alloc wo (.cells #[.slice ao (N k) c, .slice none 0 0, .int .i64 (nu k : Int)] 100) none) (fun j hj e => by
        rcases (HGR.out.rows j hj).2 with ⟨_, h0⟩ | ⟨g2, c2, _, h2, _⟩
        · omega
        · rw [h2] at e; cases e)
      have HSz : Hid (wo.heap.size + 1 = (wo.alloc (.cells #[.slice ao (N k) c, .slice none 0 0, .int .i64 (nu k : Int)] 100)).heap.size) := by show _ = _; simp
      go_loopw [4, 5] (fun t i wq => ∃ (q : Nat) (ao3 : Option Addr) (c3 : Nat), q ≤ 40 ∧ i = .int .i64 q ∧ t = .slice ao3 (N k + q) c3 ∧ St S B h m cap nu E N L (fun i => List.replicate (N i) (mk (nu i))) w0 wq ∧ Gr S B h m k nu E N L wq ∧
          ((.slice ao3 (N k + q) c3 = E k ∧ q = 0) ∨ (∃ g1 c1, Value.slice ao3 (N k + q) c3 = .slice (some ⟨g1, 0, none⟩) (N k + q) c1 ∧ ((∃ n1, E k = .slice (some ⟨g1, 0, none⟩) n1 c1) ∨ wo.heap.size + 1 ≤ g1))) ∧
          wq.ownsRow S 63 2 (.slice ao3 (N k + q) c3) (N k + q) (vr (List.replicate (N k + q) (mk (nu k)))) ∧ wo.heap.size + 1 ≤ wq.heap.size ∧ wq.cell? ⟨wo.heap.size, 2, none⟩ = some (.int .i64 (nu k : Int)) ∧ KeepP (fun b => OwnB m E b ∨ b = h) wF wq) (fun _ i _ => 40 - (intOf i).toNat)
      case atStart =>
        refine ⟨0, ao, c, Nat.zero_le _, rfl, rfl, HA, HG, .inl ⟨HE.out.symm, rfl⟩, ?_, Nat.le_of_eq HSz.out, by simp, keep_grown HKP.out (World.grownBy_alloc _ _ none) (fun b e => by cases e)⟩
        have := HA.rows k hlt
        rw [HE.out] at this
        exact this
      case round =>
        obtain ⟨q, ao3, c3, hq, rfl, rfl, st2, gr2, hsh, hown, hsz, hp2, hkp2⟩ := hrel
        have HKP2 := veil hkp2
        clear hkp2
        have HS2 : Hid (St S B h m cap nu E N L (fun i => List.replicate (N i) (mk (nu i))) w0 wr) := st2
        have HG2 : Hid (Gr S B h m k nu E N L wr) := gr2
        have HSH : Hid ((.slice ao3 (N k + q) c3 = E k ∧ q = 0) ∨ (∃ g1 c1, Value.slice ao3 (N k + q) c3 = .slice (some ⟨g1, 0, none⟩) (N k + q) c1 ∧ ((∃ n1, E k = .slice (some ⟨g1, 0, none⟩) n1 c1) ∨ wo.heap.size + 1 ≤ g1))) := hsh
        have HOW : Hid (wr.ownsRow S 63 2 (.slice ao3 (N k + q) c3) (N k + q) (vr (List.replicate (N k + q) (mk (nu k))))) := hown
        have hSz2 := st2.sS
        have hbB2 := st2.bB
        clear st2 gr2 hsh hown HA HG HSz
        by_cases hq40 : q < 40
        · go_wp2_with fail
          refine (mark_l (nu k) _ hnk).mono ?_
          rintro e9 w9 ⟨rfl, hb9⟩
          have S9 := HS2.out.belowW hb9
          have G9 : Gr S B h m k nu E N L w9 := HG2.out.grown (row := none) ⟨hb9.os, hb9.tape, hb9.output, hb9.size, fun b hb _ => hb9.block b hb⟩ (fun j hj e => by
            rcases (HG2.out.rows j hj).2 with ⟨_, h0⟩ | ⟨g2, c2, _, h2, _⟩
            · omega
            · rw [h2] at e; cases e)
          have O9 : w9.ownsRow S 63 2 (.slice ao3 (N k + q) c3) (N k + q) (vr (List.replicate (N k + q) (mk (nu k)))) := HOW.out.kept (row := none) ⟨hb9.os, hb9.tape, hb9.output, hb9.size, fun b hb _ => hb9.block b hb⟩ (by
            by_cases h0 : (Value.slice ao3 (N k + q) c3).ownBlock = none
            · exact .inl h0
            · exact .inr h0)
          have hp9 : w9.cell? ⟨wo.heap.size, 2, none⟩ = some (.int .i64 (nu k : Int)) := (World.cell?_of_block (w := wr) (a := ⟨wo.heap.size, 2, none⟩) (hb9.block wo.heap.size (by omega))).trans hp2
          have hsz9 := hb9.size
          have HKP9 := veil (keep_below HKP2.out hb9)
          have HS9 := veil S9
          have HG9 := veil G9
          have HO9 := veil O9
          clear hb9 S9 G9 O9
          go_wp2_with (at_builtin; refine wpList_append_two _ rfl _ _ 24 rfl S 63 i0 (.agg #[.int .u64 0, .int .u64 0]) 2 16 Tryz.underlying24 hi hz0 hz1 hz2 rfl (by decide) _ _ _ rfl (HO9.out.alloc _) ⟨w9.heap.size, 0, none⟩ 1 1 (vr [mk (nu k)]) rfl rfl (by exact World.news_of_block (cs := #[.int .u64 ((mk (nu k)).1 : Int), .int .u64 ((mk (nu k)).2 : Int)]) (fr := (0, 0)) (heap_alloc_new w9 _)) (by simp [vr, mk, Value.oneCell']) (by decide) (by unfold maxLen; omega) (by omega) (by simp; omega) ?_; intro g1 c1 w1 hown1 hat1)
          have hne1 : ∀ n1, E k ≠ .slice (some ⟨wo.heap.size, 0, none⟩) n1 c1 := fun n1 hE1 => by
            have := (HSR.out.rows k hlt).lt wo.heap.size (by rw [hE1]; rfl)
            omega
          obtain ⟨st3, gr3, hpl, how3, hsz3, hcell3⟩ := grow_step (H := wo.heap.size + 1) hlt sep (HS9.out.alloc (.cells #[.int .u64 ((mk (nu k)).1 : Int), .int .u64 ((mk (nu k)).2 : Int)] 63)) (HG9.out.grown (World.grownBy_alloc w9 (.cells #[.int .u64 ((mk (nu k)).1 : Int), .int .u64 ((mk (nu k)).2 : Int)] 63) none) (fun j hj e => by
            rcases (HG9.out.rows j hj).2 with ⟨_, h0⟩ | ⟨g2, c2, _, h2, _⟩
            · omega
            · rw [h2] at e; cases e)) HSH.out (by simp; omega) (by have := HSR.out.bB; omega) (by omega) (fun i hi b hb => by have := (HSR.out.rows i hi).lt b hb; omega) (fun j hj b hb => by have := (HGR.out.rows j hj).lt b hb; omega) hown1 hat1
          have hp3 : w1.cell? ⟨wo.heap.size, 2, none⟩ = some (.int .i64 (nu k : Int)) := by
            rw [hcell3 ⟨wo.heap.size, 2, none⟩ (Nat.lt_succ_self _) hne1]
            exact (World.cell?_alloc_old _ _ _ (by show wo.heap.size ≠ _; omega)).trans hp9
          have HKP4 := veil (show KeepP (fun b => OwnB m E b ∨ b = h) wF w1 by
            have ka := keep_grown HKP9.out (World.grownBy_alloc w9 (.cells #[.int .u64 ((mk (nu k)).1 : Int), .int .u64 ((mk (nu k)).2 : Int)] 63) none) (fun b e => by cases e)
            rcases hat1 with ⟨_, hg⟩ | ⟨_, hg⟩
            · refine keep_grown ka hg (fun b e => ?_)
              injection e with e
              subst e
              rcases hpl with ⟨n1, h1⟩ | h1
              · exact .inl (.inl ⟨k, hlt, by rw [h1]; rfl⟩)
              · exact .inr (by have := HKP.out.size; omega)
            · exact keep_grown ka hg (fun b e => by cases e))
          clear hown1 hat1 hne1 hcell3
          have HS3 : Hid (St S B h m cap nu E N L (fun i => List.replicate (N i) (mk (nu i))) w0 w1) := st3
          have HG3 : Hid (Gr S B h m k nu E N L w1) := gr3
          have HO3 : Hid (w1.ownsRow S 63 2 (.slice (some ⟨g1, 0, none⟩) (N k + (q + 1)) c1) (N k + (q + 1)) (vr (List.replicate (N k + (q + 1)) (mk (nu k))))) := how3
          have HPL : Hid ((∃ n1, E k = .slice (some ⟨g1, 0, none⟩) n1 c1) ∨ wo.heap.size + 1 ≤ g1) := hpl
          clear st3 gr3 how3 hpl
          go_wp2_with fail
          go_roundw
          case rel => exact ⟨q + 1, _, c1, by omega, by go_num, rfl, HS3.out, HG3.out, .inr ⟨g1, c1, rfl, HPL.out⟩, HO3.out, hsz3, hp3, HKP4.out⟩
          case measure => simp [intOf]; omega
        · have hqe : q = 40 := by omega
          subst hqe
          have hcb2 := HS2.out.book
          have hg2 : wr.cell? ⟨h, k * 3 + 1, none⟩ = some (.slice none 0 0) := by rw [HS2.out.g k hlt, HNL.out k (Nat.le_refl _) hlt]
          have hfz2 := HS2.out.fz (k * 3 + 1)
          go_wp2_with fail
          go_roundw
          case rel =>
            refine ⟨k + 1, _, by omega, by go_num, HS2.out.lay sep hlt _, ?_, fun j hj hjm => ?_, keep_grown (row := some h) HKP2.out ⟨rfl, rfl, rfl, by simp, fun b _ hb => Below.heap_setCell _ _ _ b (fun e => hb (by rw [e]))⟩ (fun b e => by injection e with e; subst e; exact .inl (.inr rfl)), fun j hj b e => ?_⟩
            · have hgr : wr.grownBy (wr.setCell ⟨h, k * 3 + 1, none⟩ (.slice ao3 (N k + 40) c3)) (some h) := ⟨rfl, rfl, rfl, by simp, fun b _ hb => Below.heap_setCell _ _ _ b (fun e => hb (by rw [e]))⟩
              have hlg : ∀ j, j < k + 1 → j ≠ k → j < k := fun j h1 h2 => by omega
              obtain ⟨gg, cc, hgg⟩ : ∃ gg cc, Value.slice ao3 (N k + 40) c3 = .slice (some ⟨gg, 0, none⟩) (N k + 40) cc := by
                rcases bookOwn_shape HOW.out with ⟨_, h0⟩ | ⟨gg, cc, h1, _⟩
                · omega
                · exact ⟨gg, cc, h1⟩
              have hplace : (∃ n1, E k = .slice (some ⟨gg, 0, none⟩) n1 cc) ∨ wo.heap.size + 1 ≤ gg := by
                rcases HSH.out with ⟨_, h0⟩ | ⟨g1, c1, h1, h2⟩
                · omega
                · rw [hgg] at h1
                  injection h1 with e1 e2 e3
                  injection e1 with e1
                  injection e1 with e1
                  subst e1 e3
                  exact h2
              have hob : ∀ b, b < wo.heap.size + 1 → (∀ n1, E k ≠ .slice (some ⟨b, 0, none⟩) n1 cc) → (Value.slice ao3 (N k + 40) c3).ownBlock ≠ some b := by
                intro b hb hne e
                rw [hgg] at e
                injection e with e
                subst e
                rcases hplace with ⟨n1, h1⟩ | h1
                · exact hne n1 h1
                · have h2 : gg < wo.heap.size + 1 := hb
                  omega
              have hkB := hob B (by have := HSR.out.bB; omega) (fun n1 hE => sep.eB k hlt (by rw [hE]; rfl))
              have hkh := hob h (by omega) (fun n1 hE => sep.eh k hlt (by rw [hE]; rfl))
              refine ⟨fun j hj => ?_, fun j hj => ?_, fun j hj => ?_, fun j i hj hi hij => ?_⟩
              · by_cases hjk : j = k
                · subst hjk; rw [if_pos rfl]; exact HOW.out.kept hgr (.inr hkh)
                · rw [if_neg hjk]; exact (HG2.out.rows j (hlg j hj hjk)).kept hgr (.inr (HG2.out.nh j (hlg j hj hjk)))
              · by_cases hjk : j = k
                · subst hjk; rw [if_pos rfl]; exact hkB
                · rw [if_neg hjk]; exact HG2.out.nB j (hlg j hj hjk)
              · by_cases hjk : j = k
                · subst hjk; rw [if_pos rfl]; exact hkh
                · rw [if_neg hjk]; exact HG2.out.nh j (hlg j hj hjk)
              · by_cases hjk : j = k
                · subst hjk
                  rw [if_pos rfl]
                  intro e
                  cases hEi : (E i).ownBlock with
                  | none => rw [hEi, hgg] at e; cases e
                  | some b =>
                    rw [hEi] at e
                    refine hob b (by have := (HSR.out.rows i hi).lt b hEi; omega) (fun n1 hE => ?_) e
                    rcases sep.ee i j hi hlt hij with h1 | h1
                    · rw [hEi] at h1; cases h1
                    · exact h1 (by rw [hEi, hE]; rfl)
                · rw [if_neg hjk]; exact HG2.out.ne j i (hlg j hj hjk) hi hij
            · rw [if_neg (by omega)]; exact HNL.out j (by omega) hjm
            · by_cases hjk : j = k
              · rw [if_pos hjk] at e
                rcases HSH.out with ⟨_, h0⟩ | ⟨g1, c1, h1, h2⟩
                · omega
                · rw [h1] at e
                  injection e with e
                  subst e
                  rcases h2 with ⟨n1, h2⟩ | h2
                  · exact .inl ⟨k, hlt, by rw [h2]; rfl⟩
                  · exact .inr (by have := HKP.out.size; have h3 : wo.heap.size + 1 ≤ g1 := h2; show wF.heap.size ≤ g1; omega)
              · rw [if_neg hjk] at e
                exact HLB.out j (by omega) b e
          case measure => simp [intOf]; omega
    · have hkm : k = m := by omega
      subst hkm
      have HSR : Hid (St S B h k cap nu E N L (fun i => List.replicate (N i) (mk (nu i))) w0 wr) := st
      have HGR : Hid (Gr S B h k k nu E N L wr) := gr
      clear st gr hnil
      go_wp2_with fail
      go_end0
      exact ⟨rfl, L, HSR.out, HGR.out, HKP.out, HLB.out⟩
end Go.Proofs.YtohoieleakieeaaGreatDoor.Bq
