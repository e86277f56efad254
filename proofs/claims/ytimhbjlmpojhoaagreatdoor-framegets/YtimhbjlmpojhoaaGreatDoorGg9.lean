/-
  Out of BkFrL, BkApart, BkKinds, FrTwinR, FrLeftR.
-/
import Derived.Test.YtimhbjlmpojhoaaGreatDoorGg8
import Derived.Test.YtimhbjlmpojhoaaGreatDoorGg6
import Derived.Test.YtimhbjlmpojhoaaGreatDoorGg7
import Derived.Test.YtimhbjlmpojhoaaGreatDoorGg2

/-! What a Book of lists of ranges looks at in the end: every mark is there. Written by mklook8.py. -/
namespace Go.Proofs.YtimhbjlmpojhoaaGreatDoor.Bf
open Go Go.RowKit
open Go.Proofs.YtimhbjlmpojhoaaGreatDoor.Bq (Sep OwnB own_keepP below_keepP keep_grown keep_below run_append_two wpList_append_two run_cellB run_lenB run_storeMid8 run_lssI8)

theorem grown_of_below {w W : World} (hb : Below w.heap.size w W) : w.grownBy W none := ⟨hb.os, hb.tape, hb.output, hb.size, fun k hk _ => hb.block k hk⟩
theorem gr_rep (n q : Nat) (u : Nat → Value) (h : q < n) : gO (List.replicate n u) q = u := by
  unfold gO
  rw [List.getElem?_replicate, if_pos h]
  rfl
theorem rep_range {W : World} {S g c n q : Nat} {u : Nat → Value} (h : W.ownsRow S 37 8 (.slice (some ⟨g, 0, none⟩) n c) n (vo (List.replicate n u))) (hq : q < n) : W.rangeAt g (0 + q * 8) (oC u).toList := by
  have := own_range8 h (List.length_replicate ..) q hq
  rwa [gr_rep n q u hq] at this
def depL8 : Nat → List Nat
  | 1 => [0]
  | 3 => [1, 2]
  | 4 => [3]
  | 6 => [5]
  | 7 => [4, 6]
  | 8 => [7]
  | 9 => [8]
  | 10 => [9]
  | 11 => [9]
  | 12 => [9, 11]
  | 13 => [9, 12]
  | 14 => [9, 10, 13]
  | 15 => [9, 14]
  | 16 => [15]
  | 17 => [15, 16]
  | 18 => [15]
  | 19 => [15, 17, 18]
  | 20 => [15, 19]
  | 21 => [15]
  | 22 => [15, 21]
  | 23 => [15, 20, 22]
  | 24 => [15, 23]
  | 25 => [9, 15, 24]
  | 26 => [9, 25]
  | _ => []
def valLT (Hb gg cc g nk c q k : Nat) : Nat → Value
  | 0 => .pointer (some ⟨Hb, 1, none⟩)
  | 1 => .slice (some ⟨gg, 0, none⟩) (nk + 40) cc
  | 2 => .int .i64 (q : Int)
  | 3 => .pointer (some ⟨gg, 0 + q * 8, none⟩)
  | 4 => .agg (oC (mk k))
  | 5 => .pointer (some ⟨Hb, 2, none⟩)
  | 6 => .int .i64 (k : Int)
  | 7 => .bool true
  | 8 => .bool false
  | 9 => .bool false
  | 10 => .int .i64 (q : Int)
  | 11 => .pointer (some ⟨Hb, 0, none⟩)
  | 12 => .slice (some ⟨g, 0, none⟩) nk c
  | 13 => .int .i64 (nk : Int)
  | 14 => .bool true
  | 15 => .bool true
  | 16 => .pointer (some ⟨Hb, 0, none⟩)
  | 17 => .slice (some ⟨g, 0, none⟩) nk c
  | 18 => .int .i64 (q : Int)
  | 19 => .pointer (some ⟨g, 0 + q * 8, none⟩)
  | 20 => .agg (oC (mk k))
  | 21 => .pointer (some ⟨Hb, 2, none⟩)
  | 22 => .int .i64 (k : Int)
  | 23 => .bool true
  | 24 => .bool false
  | 25 => .bool false
  | _ => .bool false
def valLU (Hb gg cc nk c q k : Nat) (ao : Option Addr) : Nat → Value
  | 0 => .pointer (some ⟨Hb, 1, none⟩)
  | 1 => .slice (some ⟨gg, 0, none⟩) (nk + 40) cc
  | 2 => .int .i64 (q : Int)
  | 3 => .pointer (some ⟨gg, 0 + q * 8, none⟩)
  | 4 => .agg (oC (mk k))
  | 5 => .pointer (some ⟨Hb, 2, none⟩)
  | 6 => .int .i64 (k : Int)
  | 7 => .bool true
  | 8 => .bool false
  | 9 => .bool false
  | 10 => .int .i64 (q : Int)
  | 11 => .pointer (some ⟨Hb, 0, none⟩)
  | 12 => .slice ao nk c
  | 13 => .int .i64 (nk : Int)
  | 14 => .bool false
  | 15 => .bool false
  | 16 => undef
  | 17 => undef
  | 18 => undef
  | 19 => undef
  | 20 => undef
  | 21 => undef
  | 22 => undef
  | 23 => undef
  | 24 => undef
  | 25 => .bool false
  | _ => .bool false

set_option maxRecDepth 20000 in
set_option maxHeartbeats 1000000 in
theorem look_any (S B h m cap : Nat) (nu : Nat → Nat) (E : Nat → Value) (N : Nat → Nat) (Lg : Nat → Value) (w0 wL : World) (hnu : ∀ i, i < m → nu i ≤ 5000000) (hm2 : m ≤ 3000000) (hN : ∀ i, i < m → N i ≤ 5000000) (st : St S B h m cap nu E N Lg (fun i => List.replicate (N i) (mk (nu i))) w0 wL) (gr : Gr S B h m m nu E N Lg wL) :
    Calls Tryz.prog 63 #[.pointer (some ⟨B, 0, none⟩)] wL fun e w' => e = .returned (.bool true) ∧ wL.grownBy w' none := by
  have HST := veil st
  have HGR := veil gr
  have hc := st.book
  have hbB := st.bB
  have hbh := st.bh
  clear st gr
  refine (callsIn_wide (n := 4)).1 ?_
  refine callsIn_of_wp Tryz.func63 rfl trivial ?_ rfl
  simp only [Tryz.ntmps63, List.size_toArray, List.length_cons, List.length_nil, Nat.reduceAdd, Nat.reduceSub, Array.replicate_succ, Array.replicate_zero, List.push_toArray, List.append_toArray, List.nil_append, List.cons_append]
  gi_wp2_with fail
  gi_loopw [3] (fun i wr => ∃ k : Nat, k ≤ m ∧ i = .int .i64 k ∧ wL.grownBy wr none) (fun i _ => m - (intOf i).toNat)
  case atStart => exact ⟨0, Nat.zero_le _, rfl, rfl, rfl, rfl, Nat.le_refl _, fun _ _ _ => rfl⟩
  case round =>
    obtain ⟨k, hk, rfl, hg⟩ := hrel
    have hcb : wr.cell? ⟨B, 7, none⟩ = some (.slice (some ⟨h, 0, none⟩) m cap) := hg.cell hc (by simp)
    have hsz := hg.size
    by_cases hlt : k < m
    · obtain ⟨ao, c, hE⟩ : ∃ ao c, E k = .slice ao (N k) c := by
        rcases bookOwn_shape (HST.out.rows k hlt) with ⟨h1, h2⟩ | ⟨g, c, h1, _⟩
        · exact ⟨none, 0, by rw [h1, h2]⟩
        · exact ⟨some ⟨g, 0, none⟩, c, h1⟩
      obtain ⟨gg, cc, hL⟩ : ∃ gg cc, Lg k = .slice (some ⟨gg, 0, none⟩) (N k + 40) cc := by
        rcases bookOwn_shape (HGR.out.rows k hlt) with ⟨_, h0⟩ | ⟨gg, cc, h1, _⟩
        · omega
        · exact ⟨gg, cc, h1⟩
      have HE := veil hE
      have HL := veil hL
      have c0 : wr.cell? ⟨h, k * 3, none⟩ = some (.slice ao (N k) c) := (hg.cell (HST.out.l k hlt) (by simp)).trans (by rw [hE])
      have c1 : wr.cell? ⟨h, k * 3 + 1, none⟩ = some (.slice (some ⟨gg, 0, none⟩) (N k + 40) cc) := (hg.cell (HST.out.g k hlt) (by simp)).trans (by rw [hL])
      have c2 : wr.cell? ⟨h, k * 3 + 2, none⟩ = some (.int .i64 (nu k : Int)) := hg.cell (HST.out.n k hlt) (by simp)
      have hNk := hN k hlt
      have hkm : nu k ≤ 5000000 := hnu k hlt
      have HG := veil hg
      have hne : decide (((N k + 40 : Nat) : Int) = ((N k : Nat) : Int) + 40) = true := by simp
      clear hg hE hL
      gi_wp2_with fail
      obtain ⟨wo, rfl⟩ : ∃ wo : World, wo = wr := ⟨_, rfl⟩
      have HA := veil (show wL.grownBy (wo.alloc (.cells #[.slice ao (N k) c, .slice (some ⟨gg, 0, none⟩) (N k + 40) cc, .int .i64 (nu k : Int)] 93)) none from HG.out.trans (World.grownBy_alloc _ _ _))
      gi_loopw [5] (fun i wq => ∃ q : Nat, q ≤ N k + 40 ∧ i = .int .i64 q ∧ wL.grownBy wq none ∧ wq.cell? ⟨wo.heap.size, 0, none⟩ = some (.slice ao (N k) c) ∧ wq.cell? ⟨wo.heap.size, 1, none⟩ = some (.slice (some ⟨gg, 0, none⟩) (N k + 40) cc) ∧ wq.cell? ⟨wo.heap.size, 2, none⟩ = some (.int .i64 (nu k : Int)) ∧ wo.heap.size < wq.heap.size) (fun i _ => N k + 40 - (intOf i).toNat)
      case atStart => exact ⟨0, Nat.zero_le _, rfl, HA.out, by simp, by simp, by simp, by simp⟩
      case round =>
        obtain ⟨q, hq, rfl, hg2, p0, p1, p2, hsq⟩ := hrel
        have HG2 := veil hg2
        clear HA
        by_cases hq2 : q < N k + 40
        · have rowL : ∀ W', wL.grownBy W' none → W'.ownsRow S 37 8 (.slice (some ⟨gg, 0, none⟩) (N k + 40) cc) (N k + 40) (vo (List.replicate (N k + 40) (mk (nu k)))) := by
            intro W' hb
            have := HGR.out.rows k hlt
            rw [HL.out] at this
            exact this.kept hb (.inr (by simp [Value.ownBlock]))
          have i1 : (0 : Int) ≤ (q : Int) := by omega
          have i2 : (q : Int) < ((N k + 40 : Nat) : Int) := by omega
          by_cases hq3 : q < N k
          · obtain ⟨g, hao⟩ : ∃ g, ao = some ⟨g, 0, none⟩ := by
              rcases bookOwn_shape (HST.out.rows k hlt) with ⟨h1, h2⟩ | ⟨g, c4, h1, _⟩
              · omega
              · rw [HE.out] at h1; injection h1 with e1 e2 e3; exact ⟨g, e1⟩
            subst hao
            have rowE : ∀ W', wL.grownBy W' none → W'.ownsRow S 37 8 (.slice (some ⟨g, 0, none⟩) (N k) c) (N k) (vo (List.replicate (N k) (mk (nu k)))) := by
              intro W' hb
              have := HST.out.rows k hlt
              rw [HE.out] at this
              exact this.kept hb (.inr (by simp [Value.ownBlock]))
            clear hg2
            gi_wp2_with fail
            refine wpIn_region_any (by kernel_rfl) ?_
            refine anyIn_vals2 (w0 := wr) (valLT wo.heap.size gg cc g (N k) c q (nu k)) [37, 38, 39, 40, 41, 42, 43, 44, 45, 46, 47, 48, 49, 50, 51, 52, 53, 54, 55, 56, 57, 58, 59, 60, 61, 62, 63] depL8 (by kernel_rfl) rfl (by decide) ((Below.refl _ _).drew) ?step3 ?done3
            case step3 =>
              intro x W ii d hW hdi hdep
              have gW : wL.grownBy W none := HG2.out.trans (grown_of_below hW)
              have b0 := (World.cell?_of_block (w := wr) (a := ⟨wo.heap.size, 0, none⟩) (hW.block wo.heap.size hsq)).trans p0
              have b1 := (World.cell?_of_block (w := wr) (a := ⟨wo.heap.size, 1, none⟩) (hW.block wo.heap.size hsq)).trans p1
              have b2 := (World.cell?_of_block (w := wr) (a := ⟨wo.heap.size, 2, none⟩) (hW.block wo.heap.size hsq)).trans p2
              have rg1 : W.rangeAt gg (0 + q * 8) (oC (mk (nu k))).toList := rep_range (rowL W gW) hq2
              have rg2 : W.rangeAt g (0 + q * 8) (oC (mk (nu k))).toList := rep_range (rowE W gW) hq3
              clear hW gW
              match ii, hdi, hdep with
              | 0, hdi, _ =>
                obtain rfl := Option.some.inj hdi
                exact OI_value rfl rfl (about_none (by intro c h; cases h)) (by intro c h; cases h) (.pointer (some ⟨wo.heap.size, 1, none⟩)) W (by kernel_rfl) ⟨rfl, Below.refl _ _⟩
              | 1, hdi, hdep =>
                obtain rfl := Option.some.inj hdi
                rw [updV_self (hdep 0 (by simp [depL8]))]
                exact OI_value rfl rfl (about_none (by intro c h; cases h)) (by intro c h; cases h) (.slice (some ⟨gg, 0, none⟩) ((N k) + 40) cc) W (run_cellB 22 _ ⟨wo.heap.size, 1, none⟩ _ _ rfl (by kernel_rfl) Tryz.underlying22 rfl W b1) ⟨rfl, Below.refl _ _⟩
              | 2, hdi, _ =>
                obtain rfl := Option.some.inj hdi
                exact OI_value rfl rfl (about_none (by intro c h; cases h)) (by intro c h; cases h) (.int .i64 (q : Int)) W (by kernel_rfl) ⟨rfl, Below.refl _ _⟩
              | 3, hdi, hdep =>
                obtain rfl := Option.some.inj hdi
                rw [updV_self (hdep 1 (by simp [depL8])), updV_self (show updV x 1 _ 2 = _ from hdep 2 (by simp [depL8]))]
                exact OI_value rfl rfl (about_none (by intro c h; cases h)) (by intro c h; cases h) (.pointer (some ⟨gg, 0 + q * 8, none⟩)) W (run_atR 22 37 8 _ _ gg 0 (N k + 40) cc q rfl (by kernel_rfl) (by kernel_rfl) Tryz.underlying22 (by kernel_rfl) hq2 W) ⟨rfl, Below.refl _ _⟩
              | 4, hdi, hdep =>
                obtain rfl := Option.some.inj hdi
                rw [updV_self (hdep 3 (by simp [depL8]))]
                exact OI_value rfl rfl (about_none (by intro c h; cases h)) (by intro c h; cases h) (.agg (oC (mk (nu k)))) W (run_midR 37 _ gg (0 + q * 8) (oC (mk (nu k))) _ rfl (by kernel_rfl) Tryz.underlying37 rfl (by kernel_rfl) W rg1) ⟨rfl, Below.refl _ _⟩
              | 5, hdi, _ =>
                obtain rfl := Option.some.inj hdi
                exact OI_value rfl rfl (about_none (by intro c h; cases h)) (by intro c h; cases h) (.pointer (some ⟨wo.heap.size, 2, none⟩)) W (by kernel_rfl) ⟨rfl, Below.refl _ _⟩
              | 6, hdi, hdep =>
                obtain rfl := Option.some.inj hdi
                rw [updV_self (hdep 5 (by simp [depL8]))]
                exact OI_value rfl rfl (about_none (by intro c h; cases h)) (by intro c h; cases h) (.int .i64 (nu k : Int)) W (run_cellB 3 _ ⟨wo.heap.size, 2, none⟩ _ _ rfl (by kernel_rfl) Tryz.underlying3 rfl W b2) ⟨rfl, Below.refl _ _⟩
              | 7, hdi, hdep =>
                obtain rfl := Option.some.inj hdi
                rw [updV_self (hdep 4 (by simp [depL8])), updV_self (show updV x 4 _ 6 = _ from hdep 6 (by simp [depL8]))]
                refine OI_call rfl rfl (by intro c h; cases h) 108 #[.agg (oC (mk (nu k))), .int .i64 (nu k : Int)] (fun _ _ => trivial) (by kernel_rfl) (by decide) ?_
                refine (callsIn_wide.2 (is_r (nu k) W hkm)).mono ?_
                rintro e w' ⟨rfl, hb'⟩
                exact ⟨_, rfl, rfl, hb'⟩
              | 8, hdi, hdep =>
                obtain rfl := Option.some.inj hdi
                rw [updV_self (hdep 7 (by simp [depL8]))]
                exact OI_value rfl rfl (about_none (by intro c h; cases h)) (by intro c h; cases h) (.bool false) W (by kernel_rfl) ⟨rfl, Below.refl _ _⟩
              | 9, hdi, hdep =>
                obtain rfl := Option.some.inj hdi
                rw [updV_self (hdep 8 (by simp [depL8]))]
                exact OI_value rfl rfl (about_none (by intro c h; cases h)) (by intro c h; cases h) (.bool false) W (by kernel_rfl) ⟨rfl, Below.refl _ _⟩
              | 10, hdi, hdep =>
                obtain rfl := Option.some.inj hdi
                rw [updV_self (hdep 9 (by simp [depL8]))]
                with_reducible refine OI_value2 ?_ ?_ ?_ ?_ (.int .i64 (q : Int)) W ?_ ?_
                · decide
                · kernel_rfl
                · exact about_none (by intro c h; cases h)
                · intro c h; cases h
                · kernel_rfl
                · exact ⟨rfl, Below.refl _ _⟩
              | 11, hdi, hdep =>
                obtain rfl := Option.some.inj hdi
                rw [updV_self (hdep 9 (by simp [depL8]))]
                with_reducible refine OI_value2 ?_ ?_ ?_ ?_ (.pointer (some ⟨wo.heap.size, 0, none⟩)) W ?_ ?_
                · decide
                · kernel_rfl
                · exact about_none (by intro c h; cases h)
                · intro c h; cases h
                · kernel_rfl
                · exact ⟨rfl, Below.refl _ _⟩
              | 12, hdi, hdep =>
                obtain rfl := Option.some.inj hdi
                rw [updV_self (hdep 9 (by simp [depL8])), updV_self (show updV x 9 _ 11 = _ from hdep 11 (by simp [depL8]))]
                with_reducible refine OI_value2 ?_ ?_ ?_ ?_ (.slice (some ⟨g, 0, none⟩) (N k) c) W ?_ ?_
                · decide
                · kernel_rfl
                · exact about_none (by intro c h; cases h)
                · intro c h; cases h
                · exact run_cellB 22 _ ⟨wo.heap.size, 0, none⟩ _ _ rfl (by kernel_rfl) Tryz.underlying22 rfl W b0
                · exact ⟨rfl, Below.refl _ _⟩
              | 13, hdi, hdep =>
                obtain rfl := Option.some.inj hdi
                rw [updV_self (hdep 9 (by simp [depL8])), updV_self (show updV x 9 _ 12 = _ from hdep 12 (by simp [depL8]))]
                with_reducible refine OI_value2 ?_ ?_ ?_ ?_ (.int .i64 ((N k) : Int)) W ?_ ?_
                · decide
                · kernel_rfl
                · exact about_builtin _ _ _ rfl
                · intro c h; cases h
                · exact run_lenB _ 22 37 (some ⟨g, 0, none⟩) (N k) c rfl (by kernel_rfl) W Tryz.underlying22
                · exact ⟨rfl, Below.refl _ _⟩
              | 14, hdi, hdep =>
                obtain rfl := Option.some.inj hdi
                rw [updV_self (hdep 9 (by simp [depL8])), updV_self (show updV x 9 _ 10 = _ from hdep 10 (by simp [depL8])), updV_self (show updV (updV x 9 _) 10 _ 13 = _ from hdep 13 (by simp [depL8]))]
                with_reducible refine OI_value2 ?_ ?_ ?_ ?_ (.bool true) W ?_ ?_
                · decide
                · kernel_rfl
                · exact about_none (by intro c h; cases h)
                · intro c h; cases h
                · exact run_lssI8 3 3 _ _ q (N k) true (by simp; omega) rfl (by kernel_rfl) (by kernel_rfl) W
                · exact ⟨rfl, Below.refl _ _⟩
              | 15, hdi, hdep =>
                obtain rfl := Option.some.inj hdi
                rw [updV_self (hdep 9 (by simp [depL8])), updV_self (show updV x 9 _ 14 = _ from hdep 14 (by simp [depL8]))]
                with_reducible refine OI_value2 ?_ ?_ ?_ ?_ (.bool true) W ?_ ?_
                · decide
                · kernel_rfl
                · exact about_none (by intro c h; cases h)
                · intro c h; cases h
                · kernel_rfl
                · exact ⟨rfl, Below.refl _ _⟩
              | 16, hdi, hdep =>
                obtain rfl := Option.some.inj hdi
                rw [updV_self (hdep 15 (by simp [depL8]))]
                with_reducible refine OI_value2 ?_ ?_ ?_ ?_ (.pointer (some ⟨wo.heap.size, 0, none⟩)) W ?_ ?_
                · decide
                · kernel_rfl
                · exact about_none (by intro c h; cases h)
                · intro c h; cases h
                · kernel_rfl
                · exact ⟨rfl, Below.refl _ _⟩
              | 17, hdi, hdep =>
                obtain rfl := Option.some.inj hdi
                rw [updV_self (hdep 15 (by simp [depL8])), updV_self (show updV x 15 _ 16 = _ from hdep 16 (by simp [depL8]))]
                with_reducible refine OI_value2 ?_ ?_ ?_ ?_ (.slice (some ⟨g, 0, none⟩) (N k) c) W ?_ ?_
                · decide
                · kernel_rfl
                · exact about_none (by intro c h; cases h)
                · intro c h; cases h
                · exact run_cellB 22 _ ⟨wo.heap.size, 0, none⟩ _ _ rfl (by kernel_rfl) Tryz.underlying22 rfl W b0
                · exact ⟨rfl, Below.refl _ _⟩
              | 18, hdi, hdep =>
                obtain rfl := Option.some.inj hdi
                rw [updV_self (hdep 15 (by simp [depL8]))]
                with_reducible refine OI_value2 ?_ ?_ ?_ ?_ (.int .i64 (q : Int)) W ?_ ?_
                · decide
                · kernel_rfl
                · exact about_none (by intro c h; cases h)
                · intro c h; cases h
                · kernel_rfl
                · exact ⟨rfl, Below.refl _ _⟩
              | 19, hdi, hdep =>
                obtain rfl := Option.some.inj hdi
                rw [updV_self (hdep 15 (by simp [depL8])), updV_self (show updV x 15 _ 17 = _ from hdep 17 (by simp [depL8])), updV_self (show updV (updV x 15 _) 17 _ 18 = _ from hdep 18 (by simp [depL8]))]
                with_reducible refine OI_value2 ?_ ?_ ?_ ?_ (.pointer (some ⟨g, 0 + q * 8, none⟩)) W ?_ ?_
                · decide
                · kernel_rfl
                · exact about_none (by intro c h; cases h)
                · intro c h; cases h
                · exact run_atR 22 37 8 _ _ g 0 (N k) c q rfl (by kernel_rfl) (by kernel_rfl) Tryz.underlying22 (by kernel_rfl) hq3 W
                · exact ⟨rfl, Below.refl _ _⟩
              | 20, hdi, hdep =>
                obtain rfl := Option.some.inj hdi
                rw [updV_self (hdep 15 (by simp [depL8])), updV_self (show updV x 15 _ 19 = _ from hdep 19 (by simp [depL8]))]
                with_reducible refine OI_value2 ?_ ?_ ?_ ?_ (.agg (oC (mk (nu k)))) W ?_ ?_
                · decide
                · kernel_rfl
                · exact about_none (by intro c h; cases h)
                · intro c h; cases h
                · exact run_midR 37 _ g (0 + q * 8) (oC (mk (nu k))) _ rfl (by kernel_rfl) Tryz.underlying37 rfl (by kernel_rfl) W rg2
                · exact ⟨rfl, Below.refl _ _⟩
              | 21, hdi, hdep =>
                obtain rfl := Option.some.inj hdi
                rw [updV_self (hdep 15 (by simp [depL8]))]
                with_reducible refine OI_value2 ?_ ?_ ?_ ?_ (.pointer (some ⟨wo.heap.size, 2, none⟩)) W ?_ ?_
                · decide
                · kernel_rfl
                · exact about_none (by intro c h; cases h)
                · intro c h; cases h
                · kernel_rfl
                · exact ⟨rfl, Below.refl _ _⟩
              | 22, hdi, hdep =>
                obtain rfl := Option.some.inj hdi
                rw [updV_self (hdep 15 (by simp [depL8])), updV_self (show updV x 15 _ 21 = _ from hdep 21 (by simp [depL8]))]
                with_reducible refine OI_value2 ?_ ?_ ?_ ?_ (.int .i64 (nu k : Int)) W ?_ ?_
                · decide
                · kernel_rfl
                · exact about_none (by intro c h; cases h)
                · intro c h; cases h
                · exact run_cellB 3 _ ⟨wo.heap.size, 2, none⟩ _ _ rfl (by kernel_rfl) Tryz.underlying3 rfl W b2
                · exact ⟨rfl, Below.refl _ _⟩
              | 23, hdi, hdep =>
                obtain rfl := Option.some.inj hdi
                rw [updV_self (hdep 15 (by simp [depL8])), updV_self (show updV x 15 _ 20 = _ from hdep 20 (by simp [depL8])), updV_self (show updV (updV x 15 _) 20 _ 22 = _ from hdep 22 (by simp [depL8]))]
                with_reducible refine OI_call2 ?_ ?_ ?_ 108 #[.agg (oC (mk (nu k))), .int .i64 (nu k : Int)] ?_ ?_ ?_ ?_
                · decide
                · kernel_rfl
                · intro c h; cases h
                · exact fun _ _ => trivial
                · kernel_rfl
                · decide
                · refine (callsIn_wide.2 (is_r (nu k) W hkm)).mono ?_
                  rintro e w' ⟨rfl, hb'⟩
                  exact ⟨_, rfl, rfl, hb'⟩
              | 24, hdi, hdep =>
                obtain rfl := Option.some.inj hdi
                rw [updV_self (hdep 15 (by simp [depL8])), updV_self (show updV x 15 _ 23 = _ from hdep 23 (by simp [depL8]))]
                with_reducible refine OI_value2 ?_ ?_ ?_ ?_ (.bool false) W ?_ ?_
                · decide
                · kernel_rfl
                · exact about_none (by intro c h; cases h)
                · intro c h; cases h
                · kernel_rfl
                · exact ⟨rfl, Below.refl _ _⟩
              | 25, hdi, hdep =>
                obtain rfl := Option.some.inj hdi
                rw [updV_self (hdep 9 (by simp [depL8])), updV_self (show updV x 9 _ 15 = _ from hdep 15 (by simp [depL8])), updV_self (show updV (updV x 9 _) 15 _ 24 = _ from hdep 24 (by simp [depL8]))]
                with_reducible refine OI_value2 ?_ ?_ ?_ ?_ (.bool false) W ?_ ?_
                · decide
                · kernel_rfl
                · exact about_none (by intro c h; cases h)
                · intro c h; cases h
                · kernel_rfl
                · exact ⟨rfl, Below.refl _ _⟩
              | 26, hdi, hdep =>
                obtain rfl := Option.some.inj hdi
                rw [updV_self (hdep 9 (by simp [depL8])), updV_self (show updV x 9 _ 25 = _ from hdep 25 (by simp [depL8]))]
                exact OI_value rfl rfl (about_none (by intro c h; cases h)) (by intro c h; cases h) (.bool false) W (by kernel_rfl) ⟨rfl, Below.refl _ _⟩
              | _ + 27, hdi, _ => simp at hdi
            case done3 =>
              intro W hW
              have HGW := veil (HG2.out.trans (grown_of_below hW))
              have b0 := (World.cell?_of_block (w := wr) (a := ⟨wo.heap.size, 0, none⟩) (hW.block wo.heap.size hsq)).trans p0
              have b1 := (World.cell?_of_block (w := wr) (a := ⟨wo.heap.size, 1, none⟩) (hW.block wo.heap.size hsq)).trans p1
              have b2 := (World.cell?_of_block (w := wr) (a := ⟨wo.heap.size, 2, none⟩) (hW.block wo.heap.size hsq)).trans p2
              have hsW := hW.size
              have hsz2 : wo.heap.size < W.heap.size := by omega
              clear hW hsW
              simp only [putsV, valLT, Act.put, List.setIfInBounds_toArray, List.set_cons_succ, List.set_cons_zero, Nat.reduceAdd]
              gi_wp2_with fail
              go_roundw
              case rel => exact ⟨q + 1, by omega, by go_num, HGW.out, b0, b1, b2, hsz2⟩
              case measure => simp [intOf]; omega
          · clear hg2
            gi_wp2_with fail
            refine wpIn_region_any (by kernel_rfl) ?_
            refine anyIn_vals2 (w0 := wr) (valLU wo.heap.size gg cc (N k) c q (nu k) ao) [37, 38, 39, 40, 41, 42, 43, 44, 45, 46, 47, 48, 49, 50, 51, 52, 53, 54, 55, 56, 57, 58, 59, 60, 61, 62, 63] depL8 (by kernel_rfl) rfl (by decide) ((Below.refl _ _).drew) ?step3 ?done3
            case step3 =>
              intro x W ii d hW hdi hdep
              have gW : wL.grownBy W none := HG2.out.trans (grown_of_below hW)
              have b0 := (World.cell?_of_block (w := wr) (a := ⟨wo.heap.size, 0, none⟩) (hW.block wo.heap.size hsq)).trans p0
              have b1 := (World.cell?_of_block (w := wr) (a := ⟨wo.heap.size, 1, none⟩) (hW.block wo.heap.size hsq)).trans p1
              have b2 := (World.cell?_of_block (w := wr) (a := ⟨wo.heap.size, 2, none⟩) (hW.block wo.heap.size hsq)).trans p2
              have rg1 : W.rangeAt gg (0 + q * 8) (oC (mk (nu k))).toList := rep_range (rowL W gW) hq2
              clear hW gW
              match ii, hdi, hdep with
              | 0, hdi, _ =>
                obtain rfl := Option.some.inj hdi
                exact OI_value rfl rfl (about_none (by intro c h; cases h)) (by intro c h; cases h) (.pointer (some ⟨wo.heap.size, 1, none⟩)) W (by kernel_rfl) ⟨rfl, Below.refl _ _⟩
              | 1, hdi, hdep =>
                obtain rfl := Option.some.inj hdi
                rw [updV_self (hdep 0 (by simp [depL8]))]
                exact OI_value rfl rfl (about_none (by intro c h; cases h)) (by intro c h; cases h) (.slice (some ⟨gg, 0, none⟩) ((N k) + 40) cc) W (run_cellB 22 _ ⟨wo.heap.size, 1, none⟩ _ _ rfl (by kernel_rfl) Tryz.underlying22 rfl W b1) ⟨rfl, Below.refl _ _⟩
              | 2, hdi, _ =>
                obtain rfl := Option.some.inj hdi
                exact OI_value rfl rfl (about_none (by intro c h; cases h)) (by intro c h; cases h) (.int .i64 (q : Int)) W (by kernel_rfl) ⟨rfl, Below.refl _ _⟩
              | 3, hdi, hdep =>
                obtain rfl := Option.some.inj hdi
                rw [updV_self (hdep 1 (by simp [depL8])), updV_self (show updV x 1 _ 2 = _ from hdep 2 (by simp [depL8]))]
                exact OI_value rfl rfl (about_none (by intro c h; cases h)) (by intro c h; cases h) (.pointer (some ⟨gg, 0 + q * 8, none⟩)) W (run_atR 22 37 8 _ _ gg 0 (N k + 40) cc q rfl (by kernel_rfl) (by kernel_rfl) Tryz.underlying22 (by kernel_rfl) hq2 W) ⟨rfl, Below.refl _ _⟩
              | 4, hdi, hdep =>
                obtain rfl := Option.some.inj hdi
                rw [updV_self (hdep 3 (by simp [depL8]))]
                exact OI_value rfl rfl (about_none (by intro c h; cases h)) (by intro c h; cases h) (.agg (oC (mk (nu k)))) W (run_midR 37 _ gg (0 + q * 8) (oC (mk (nu k))) _ rfl (by kernel_rfl) Tryz.underlying37 rfl (by kernel_rfl) W rg1) ⟨rfl, Below.refl _ _⟩
              | 5, hdi, _ =>
                obtain rfl := Option.some.inj hdi
                exact OI_value rfl rfl (about_none (by intro c h; cases h)) (by intro c h; cases h) (.pointer (some ⟨wo.heap.size, 2, none⟩)) W (by kernel_rfl) ⟨rfl, Below.refl _ _⟩
              | 6, hdi, hdep =>
                obtain rfl := Option.some.inj hdi
                rw [updV_self (hdep 5 (by simp [depL8]))]
                exact OI_value rfl rfl (about_none (by intro c h; cases h)) (by intro c h; cases h) (.int .i64 (nu k : Int)) W (run_cellB 3 _ ⟨wo.heap.size, 2, none⟩ _ _ rfl (by kernel_rfl) Tryz.underlying3 rfl W b2) ⟨rfl, Below.refl _ _⟩
              | 7, hdi, hdep =>
                obtain rfl := Option.some.inj hdi
                rw [updV_self (hdep 4 (by simp [depL8])), updV_self (show updV x 4 _ 6 = _ from hdep 6 (by simp [depL8]))]
                refine OI_call rfl rfl (by intro c h; cases h) 108 #[.agg (oC (mk (nu k))), .int .i64 (nu k : Int)] (fun _ _ => trivial) (by kernel_rfl) (by decide) ?_
                refine (callsIn_wide.2 (is_r (nu k) W hkm)).mono ?_
                rintro e w' ⟨rfl, hb'⟩
                exact ⟨_, rfl, rfl, hb'⟩
              | 8, hdi, hdep =>
                obtain rfl := Option.some.inj hdi
                rw [updV_self (hdep 7 (by simp [depL8]))]
                exact OI_value rfl rfl (about_none (by intro c h; cases h)) (by intro c h; cases h) (.bool false) W (by kernel_rfl) ⟨rfl, Below.refl _ _⟩
              | 9, hdi, hdep =>
                obtain rfl := Option.some.inj hdi
                rw [updV_self (hdep 8 (by simp [depL8]))]
                exact OI_value rfl rfl (about_none (by intro c h; cases h)) (by intro c h; cases h) (.bool false) W (by kernel_rfl) ⟨rfl, Below.refl _ _⟩
              | 10, hdi, hdep =>
                obtain rfl := Option.some.inj hdi
                rw [updV_self (hdep 9 (by simp [depL8]))]
                with_reducible refine OI_value2 ?_ ?_ ?_ ?_ (.int .i64 (q : Int)) W ?_ ?_
                · decide
                · kernel_rfl
                · exact about_none (by intro c h; cases h)
                · intro c h; cases h
                · kernel_rfl
                · exact ⟨rfl, Below.refl _ _⟩
              | 11, hdi, hdep =>
                obtain rfl := Option.some.inj hdi
                rw [updV_self (hdep 9 (by simp [depL8]))]
                with_reducible refine OI_value2 ?_ ?_ ?_ ?_ (.pointer (some ⟨wo.heap.size, 0, none⟩)) W ?_ ?_
                · decide
                · kernel_rfl
                · exact about_none (by intro c h; cases h)
                · intro c h; cases h
                · kernel_rfl
                · exact ⟨rfl, Below.refl _ _⟩
              | 12, hdi, hdep =>
                obtain rfl := Option.some.inj hdi
                rw [updV_self (hdep 9 (by simp [depL8])), updV_self (show updV x 9 _ 11 = _ from hdep 11 (by simp [depL8]))]
                with_reducible refine OI_value2 ?_ ?_ ?_ ?_ (.slice ao (N k) c) W ?_ ?_
                · decide
                · kernel_rfl
                · exact about_none (by intro c h; cases h)
                · intro c h; cases h
                · exact run_cellB 22 _ ⟨wo.heap.size, 0, none⟩ _ _ rfl (by kernel_rfl) Tryz.underlying22 rfl W b0
                · exact ⟨rfl, Below.refl _ _⟩
              | 13, hdi, hdep =>
                obtain rfl := Option.some.inj hdi
                rw [updV_self (hdep 9 (by simp [depL8])), updV_self (show updV x 9 _ 12 = _ from hdep 12 (by simp [depL8]))]
                with_reducible refine OI_value2 ?_ ?_ ?_ ?_ (.int .i64 ((N k) : Int)) W ?_ ?_
                · decide
                · kernel_rfl
                · exact about_builtin _ _ _ rfl
                · intro c h; cases h
                · exact run_lenB _ 22 37 ao (N k) c rfl (by kernel_rfl) W Tryz.underlying22
                · exact ⟨rfl, Below.refl _ _⟩
              | 14, hdi, hdep =>
                obtain rfl := Option.some.inj hdi
                rw [updV_self (hdep 9 (by simp [depL8])), updV_self (show updV x 9 _ 10 = _ from hdep 10 (by simp [depL8])), updV_self (show updV (updV x 9 _) 10 _ 13 = _ from hdep 13 (by simp [depL8]))]
                with_reducible refine OI_value2 ?_ ?_ ?_ ?_ (.bool false) W ?_ ?_
                · decide
                · kernel_rfl
                · exact about_none (by intro c h; cases h)
                · intro c h; cases h
                · exact run_lssI8 3 3 _ _ q (N k) false (by simp; omega) rfl (by kernel_rfl) (by kernel_rfl) W
                · exact ⟨rfl, Below.refl _ _⟩
              | 15, hdi, hdep =>
                obtain rfl := Option.some.inj hdi
                rw [updV_self (hdep 9 (by simp [depL8])), updV_self (show updV x 9 _ 14 = _ from hdep 14 (by simp [depL8]))]
                with_reducible refine OI_value2 ?_ ?_ ?_ ?_ (.bool false) W ?_ ?_
                · decide
                · kernel_rfl
                · exact about_none (by intro c h; cases h)
                · intro c h; cases h
                · kernel_rfl
                · exact ⟨rfl, Below.refl _ _⟩
              | 16, hdi, hdep =>
                obtain rfl := Option.some.inj hdi
                rw [updV_self (hdep 15 (by simp [depL8]))]
                with_reducible refine OI_off2 ?_ ?_ ?_ ?_
                · decide
                · kernel_rfl
                · exact fun _ _ => trivial
                · exact ⟨rfl, Below.refl _ _⟩
              | 17, hdi, hdep =>
                obtain rfl := Option.some.inj hdi
                rw [updV_self (hdep 15 (by simp [depL8])), updV_self (show updV x 15 _ 16 = _ from hdep 16 (by simp [depL8]))]
                with_reducible refine OI_off2 ?_ ?_ ?_ ?_
                · decide
                · kernel_rfl
                · exact fun _ _ => trivial
                · exact ⟨rfl, Below.refl _ _⟩
              | 18, hdi, hdep =>
                obtain rfl := Option.some.inj hdi
                rw [updV_self (hdep 15 (by simp [depL8]))]
                with_reducible refine OI_off2 ?_ ?_ ?_ ?_
                · decide
                · kernel_rfl
                · exact fun _ _ => trivial
                · exact ⟨rfl, Below.refl _ _⟩
              | 19, hdi, hdep =>
                obtain rfl := Option.some.inj hdi
                rw [updV_self (hdep 15 (by simp [depL8])), updV_self (show updV x 15 _ 17 = _ from hdep 17 (by simp [depL8])), updV_self (show updV (updV x 15 _) 17 _ 18 = _ from hdep 18 (by simp [depL8]))]
                with_reducible refine OI_off2 ?_ ?_ ?_ ?_
                · decide
                · kernel_rfl
                · exact fun _ _ => trivial
                · exact ⟨rfl, Below.refl _ _⟩
              | 20, hdi, hdep =>
                obtain rfl := Option.some.inj hdi
                rw [updV_self (hdep 15 (by simp [depL8])), updV_self (show updV x 15 _ 19 = _ from hdep 19 (by simp [depL8]))]
                with_reducible refine OI_off2 ?_ ?_ ?_ ?_
                · decide
                · kernel_rfl
                · exact fun _ _ => trivial
                · exact ⟨rfl, Below.refl _ _⟩
              | 21, hdi, hdep =>
                obtain rfl := Option.some.inj hdi
                rw [updV_self (hdep 15 (by simp [depL8]))]
                with_reducible refine OI_off2 ?_ ?_ ?_ ?_
                · decide
                · kernel_rfl
                · exact fun _ _ => trivial
                · exact ⟨rfl, Below.refl _ _⟩
              | 22, hdi, hdep =>
                obtain rfl := Option.some.inj hdi
                rw [updV_self (hdep 15 (by simp [depL8])), updV_self (show updV x 15 _ 21 = _ from hdep 21 (by simp [depL8]))]
                with_reducible refine OI_off2 ?_ ?_ ?_ ?_
                · decide
                · kernel_rfl
                · exact fun _ _ => trivial
                · exact ⟨rfl, Below.refl _ _⟩
              | 23, hdi, hdep =>
                obtain rfl := Option.some.inj hdi
                rw [updV_self (hdep 15 (by simp [depL8])), updV_self (show updV x 15 _ 20 = _ from hdep 20 (by simp [depL8])), updV_self (show updV (updV x 15 _) 20 _ 22 = _ from hdep 22 (by simp [depL8]))]
                with_reducible refine OI_off2 ?_ ?_ ?_ ?_
                · decide
                · kernel_rfl
                · exact fun _ _ => trivial
                · exact ⟨rfl, Below.refl _ _⟩
              | 24, hdi, hdep =>
                obtain rfl := Option.some.inj hdi
                rw [updV_self (hdep 15 (by simp [depL8])), updV_self (show updV x 15 _ 23 = _ from hdep 23 (by simp [depL8]))]
                with_reducible refine OI_off2 ?_ ?_ ?_ ?_
                · decide
                · kernel_rfl
                · exact fun _ _ => trivial
                · exact ⟨rfl, Below.refl _ _⟩
              | 25, hdi, hdep =>
                obtain rfl := Option.some.inj hdi
                rw [updV_self (hdep 9 (by simp [depL8])), updV_self (show updV x 9 _ 15 = _ from hdep 15 (by simp [depL8])), updV_self (show updV (updV x 9 _) 15 _ 24 = _ from hdep 24 (by simp [depL8]))]
                with_reducible refine OI_value2 ?_ ?_ ?_ ?_ (.bool false) W ?_ ?_
                · decide
                · kernel_rfl
                · exact about_none (by intro c h; cases h)
                · intro c h; cases h
                · kernel_rfl
                · exact ⟨rfl, Below.refl _ _⟩
              | 26, hdi, hdep =>
                obtain rfl := Option.some.inj hdi
                rw [updV_self (hdep 9 (by simp [depL8])), updV_self (show updV x 9 _ 25 = _ from hdep 25 (by simp [depL8]))]
                exact OI_value rfl rfl (about_none (by intro c h; cases h)) (by intro c h; cases h) (.bool false) W (by kernel_rfl) ⟨rfl, Below.refl _ _⟩
              | _ + 27, hdi, _ => simp at hdi
            case done3 =>
              intro W hW
              have HGW := veil (HG2.out.trans (grown_of_below hW))
              have b0 := (World.cell?_of_block (w := wr) (a := ⟨wo.heap.size, 0, none⟩) (hW.block wo.heap.size hsq)).trans p0
              have b1 := (World.cell?_of_block (w := wr) (a := ⟨wo.heap.size, 1, none⟩) (hW.block wo.heap.size hsq)).trans p1
              have b2 := (World.cell?_of_block (w := wr) (a := ⟨wo.heap.size, 2, none⟩) (hW.block wo.heap.size hsq)).trans p2
              have hsW := hW.size
              have hsz2 : wo.heap.size < W.heap.size := by omega
              clear hW hsW
              simp only [putsV, valLU, Act.put, List.setIfInBounds_toArray, List.set_cons_succ, List.set_cons_zero, Nat.reduceAdd]
              gi_wp2_with fail
              go_roundw
              case rel => exact ⟨q + 1, by omega, by go_num, HGW.out, b0, b1, b2, hsz2⟩
              case measure => simp [intOf]; omega
        · clear hg2
          gi_wp2_with fail
          go_roundw
          case rel => exact ⟨k + 1, by omega, by go_num, HG2.out⟩
          case measure => simp [intOf]; omega
    · have HG := veil hg
      clear hg
      gi_wp2_with fail
      go_ret
      exact ⟨rfl, HG.out⟩
end Go.Proofs.YtimhbjlmpojhoaaGreatDoor.Bf

/-! A Book of lists of bytes, of ranges and of frames: what it was told is apart. Written by mkbka.py. -/
namespace Go.Proofs.YtimhbjlmpojhoaaGreatDoor.Ba
open Go Go.RowKit
open Go.Proofs.YtimhbjlmpojhoaaGreatDoor.Bq (OwnB own_keepP below_keepP keep_grown keep_below Sep)

set_option maxHeartbeats 400000 in
theorem fillByte_none (B : Nat) (W : World) (hc : W.cell? ⟨B, 1, none⟩ = some (.slice none 0 0)) :
    Calls Tryz.prog 33 #[.pointer (some ⟨B, 0, none⟩)] W fun e w' => e = .returned (.tuple #[]) ∧ w' = W := by
  go_enter Tryz.func33, Tryz.ntmps33
  go_wp2_with fail
  refine wp_loop_rounds 1 ?_
  rw [rounds_succ]
  go_wp2_with fail
  go_end0
  exact ⟨rfl, rfl⟩

set_option maxHeartbeats 400000 in
theorem growByte_none (B : Nat) (W : World) (hc : W.cell? ⟨B, 1, none⟩ = some (.slice none 0 0)) :
    Calls Tryz.prog 45 #[.pointer (some ⟨B, 0, none⟩)] W fun e w' => e = .returned (.tuple #[]) ∧ w' = W := by
  go_enter Tryz.func45, Tryz.ntmps45
  go_wp2_with fail
  refine wp_loop_rounds 1 ?_
  rw [rounds_succ]
  go_wp2_with fail
  go_end0
  exact ⟨rfl, rfl⟩

set_option maxHeartbeats 400000 in
theorem lookByte_none (B : Nat) (W : World) (hc : W.cell? ⟨B, 1, none⟩ = some (.slice none 0 0)) :
    Calls Tryz.prog 57 #[.pointer (some ⟨B, 0, none⟩)] W fun e w' => e = .returned (.bool true) ∧ w' = W := by
  go_enter Tryz.func57, Tryz.ntmps57
  go_wp2_with fail
  refine wp_loop_rounds 1 ?_
  rw [rounds_succ]
  go_wp2_with fail
  go_ret
  exact ⟨rfl, rfl⟩

set_option maxHeartbeats 400000 in
theorem fillNumber_none (B : Nat) (W : World) (hc : W.cell? ⟨B, 2, none⟩ = some (.slice none 0 0)) :
    Calls Tryz.prog 34 #[.pointer (some ⟨B, 0, none⟩)] W fun e w' => e = .returned (.tuple #[]) ∧ w' = W := by
  go_enter Tryz.func34, Tryz.ntmps34
  go_wp2_with fail
  refine wp_loop_rounds 1 ?_
  rw [rounds_succ]
  go_wp2_with fail
  go_end0
  exact ⟨rfl, rfl⟩

set_option maxHeartbeats 400000 in
theorem growNumber_none (B : Nat) (W : World) (hc : W.cell? ⟨B, 2, none⟩ = some (.slice none 0 0)) :
    Calls Tryz.prog 46 #[.pointer (some ⟨B, 0, none⟩)] W fun e w' => e = .returned (.tuple #[]) ∧ w' = W := by
  go_enter Tryz.func46, Tryz.ntmps46
  go_wp2_with fail
  refine wp_loop_rounds 1 ?_
  rw [rounds_succ]
  go_wp2_with fail
  go_end0
  exact ⟨rfl, rfl⟩

set_option maxHeartbeats 400000 in
theorem lookNumber_none (B : Nat) (W : World) (hc : W.cell? ⟨B, 2, none⟩ = some (.slice none 0 0)) :
    Calls Tryz.prog 58 #[.pointer (some ⟨B, 0, none⟩)] W fun e w' => e = .returned (.bool true) ∧ w' = W := by
  go_enter Tryz.func58, Tryz.ntmps58
  go_wp2_with fail
  refine wp_loop_rounds 1 ?_
  rw [rounds_succ]
  go_wp2_with fail
  go_ret
  exact ⟨rfl, rfl⟩

set_option maxHeartbeats 400000 in
theorem fillInt_none (B : Nat) (W : World) (hc : W.cell? ⟨B, 3, none⟩ = some (.slice none 0 0)) :
    Calls Tryz.prog 35 #[.pointer (some ⟨B, 0, none⟩)] W fun e w' => e = .returned (.tuple #[]) ∧ w' = W := by
  go_enter Tryz.func35, Tryz.ntmps35
  go_wp2_with fail
  refine wp_loop_rounds 1 ?_
  rw [rounds_succ]
  go_wp2_with fail
  go_end0
  exact ⟨rfl, rfl⟩

set_option maxHeartbeats 400000 in
theorem growInt_none (B : Nat) (W : World) (hc : W.cell? ⟨B, 3, none⟩ = some (.slice none 0 0)) :
    Calls Tryz.prog 47 #[.pointer (some ⟨B, 0, none⟩)] W fun e w' => e = .returned (.tuple #[]) ∧ w' = W := by
  go_enter Tryz.func47, Tryz.ntmps47
  go_wp2_with fail
  refine wp_loop_rounds 1 ?_
  rw [rounds_succ]
  go_wp2_with fail
  go_end0
  exact ⟨rfl, rfl⟩

set_option maxHeartbeats 400000 in
theorem lookInt_none (B : Nat) (W : World) (hc : W.cell? ⟨B, 3, none⟩ = some (.slice none 0 0)) :
    Calls Tryz.prog 59 #[.pointer (some ⟨B, 0, none⟩)] W fun e w' => e = .returned (.bool true) ∧ w' = W := by
  go_enter Tryz.func59, Tryz.ntmps59
  go_wp2_with fail
  refine wp_loop_rounds 1 ?_
  rw [rounds_succ]
  go_wp2_with fail
  go_ret
  exact ⟨rfl, rfl⟩

set_option maxHeartbeats 400000 in
theorem fillText_none (B : Nat) (W : World) (hc : W.cell? ⟨B, 4, none⟩ = some (.slice none 0 0)) :
    Calls Tryz.prog 36 #[.pointer (some ⟨B, 0, none⟩)] W fun e w' => e = .returned (.tuple #[]) ∧ w' = W := by
  go_enter Tryz.func36, Tryz.ntmps36
  go_wp2_with fail
  refine wp_loop_rounds 1 ?_
  rw [rounds_succ]
  go_wp2_with fail
  go_end0
  exact ⟨rfl, rfl⟩

set_option maxHeartbeats 400000 in
theorem growText_none (B : Nat) (W : World) (hc : W.cell? ⟨B, 4, none⟩ = some (.slice none 0 0)) :
    Calls Tryz.prog 48 #[.pointer (some ⟨B, 0, none⟩)] W fun e w' => e = .returned (.tuple #[]) ∧ w' = W := by
  go_enter Tryz.func48, Tryz.ntmps48
  go_wp2_with fail
  refine wp_loop_rounds 1 ?_
  rw [rounds_succ]
  go_wp2_with fail
  go_end0
  exact ⟨rfl, rfl⟩

set_option maxHeartbeats 400000 in
theorem lookText_none (B : Nat) (W : World) (hc : W.cell? ⟨B, 4, none⟩ = some (.slice none 0 0)) :
    Calls Tryz.prog 60 #[.pointer (some ⟨B, 0, none⟩)] W fun e w' => e = .returned (.bool true) ∧ w' = W := by
  go_enter Tryz.func60, Tryz.ntmps60
  go_wp2_with fail
  refine wp_loop_rounds 1 ?_
  rw [rounds_succ]
  go_wp2_with fail
  go_ret
  exact ⟨rfl, rfl⟩

set_option maxHeartbeats 400000 in
theorem fillBlob_none (B : Nat) (W : World) (hc : W.cell? ⟨B, 5, none⟩ = some (.slice none 0 0)) :
    Calls Tryz.prog 37 #[.pointer (some ⟨B, 0, none⟩)] W fun e w' => e = .returned (.tuple #[]) ∧ w' = W := by
  go_enter Tryz.func37, Tryz.ntmps37
  go_wp2_with fail
  refine wp_loop_rounds 1 ?_
  rw [rounds_succ]
  go_wp2_with fail
  go_end0
  exact ⟨rfl, rfl⟩

set_option maxHeartbeats 400000 in
theorem growBlob_none (B : Nat) (W : World) (hc : W.cell? ⟨B, 5, none⟩ = some (.slice none 0 0)) :
    Calls Tryz.prog 49 #[.pointer (some ⟨B, 0, none⟩)] W fun e w' => e = .returned (.tuple #[]) ∧ w' = W := by
  go_enter Tryz.func49, Tryz.ntmps49
  go_wp2_with fail
  refine wp_loop_rounds 1 ?_
  rw [rounds_succ]
  go_wp2_with fail
  go_end0
  exact ⟨rfl, rfl⟩

set_option maxHeartbeats 400000 in
theorem lookBlob_none (B : Nat) (W : World) (hc : W.cell? ⟨B, 5, none⟩ = some (.slice none 0 0)) :
    Calls Tryz.prog 61 #[.pointer (some ⟨B, 0, none⟩)] W fun e w' => e = .returned (.bool true) ∧ w' = W := by
  go_enter Tryz.func61, Tryz.ntmps61
  go_wp2_with fail
  refine wp_loop_rounds 1 ?_
  rw [rounds_succ]
  go_wp2_with fail
  go_ret
  exact ⟨rfl, rfl⟩

set_option maxHeartbeats 400000 in
theorem fillFrame_none (B : Nat) (W : World) (hc : W.cell? ⟨B, 7, none⟩ = some (.slice none 0 0)) :
    Calls Tryz.prog 39 #[.pointer (some ⟨B, 0, none⟩)] W fun e w' => e = .returned (.tuple #[]) ∧ w' = W := by
  go_enter Tryz.func39, Tryz.ntmps39
  go_wp2_with fail
  refine wp_loop_rounds 1 ?_
  rw [rounds_succ]
  go_wp2_with fail
  go_end0
  exact ⟨rfl, rfl⟩

set_option maxHeartbeats 400000 in
theorem growFrame_none (B : Nat) (W : World) (hc : W.cell? ⟨B, 7, none⟩ = some (.slice none 0 0)) :
    Calls Tryz.prog 51 #[.pointer (some ⟨B, 0, none⟩)] W fun e w' => e = .returned (.tuple #[]) ∧ w' = W := by
  go_enter Tryz.func51, Tryz.ntmps51
  go_wp2_with fail
  refine wp_loop_rounds 1 ?_
  rw [rounds_succ]
  go_wp2_with fail
  go_end0
  exact ⟨rfl, rfl⟩

set_option maxHeartbeats 400000 in
theorem lookFrame_none (B : Nat) (W : World) (hc : W.cell? ⟨B, 7, none⟩ = some (.slice none 0 0)) :
    Calls Tryz.prog 63 #[.pointer (some ⟨B, 0, none⟩)] W fun e w' => e = .returned (.bool true) ∧ w' = W := by
  go_enter Tryz.func63, Tryz.ntmps63
  go_wp2_with fail
  refine wp_loop_rounds 1 ?_
  rw [rounds_succ]
  go_wp2_with fail
  go_ret
  exact ⟨rfl, rfl⟩

set_option maxHeartbeats 400000 in
theorem fillField_none (B : Nat) (W : World) (hc : W.cell? ⟨B, 8, none⟩ = some (.slice none 0 0)) :
    Calls Tryz.prog 40 #[.pointer (some ⟨B, 0, none⟩)] W fun e w' => e = .returned (.tuple #[]) ∧ w' = W := by
  go_enter Tryz.func40, Tryz.ntmps40
  go_wp2_with fail
  refine wp_loop_rounds 1 ?_
  rw [rounds_succ]
  go_wp2_with fail
  go_end0
  exact ⟨rfl, rfl⟩

set_option maxHeartbeats 400000 in
theorem growField_none (B : Nat) (W : World) (hc : W.cell? ⟨B, 8, none⟩ = some (.slice none 0 0)) :
    Calls Tryz.prog 52 #[.pointer (some ⟨B, 0, none⟩)] W fun e w' => e = .returned (.tuple #[]) ∧ w' = W := by
  go_enter Tryz.func52, Tryz.ntmps52
  go_wp2_with fail
  refine wp_loop_rounds 1 ?_
  rw [rounds_succ]
  go_wp2_with fail
  go_end0
  exact ⟨rfl, rfl⟩

set_option maxHeartbeats 400000 in
theorem lookField_none (B : Nat) (W : World) (hc : W.cell? ⟨B, 8, none⟩ = some (.slice none 0 0)) :
    Calls Tryz.prog 64 #[.pointer (some ⟨B, 0, none⟩)] W fun e w' => e = .returned (.bool true) ∧ w' = W := by
  go_enter Tryz.func64, Tryz.ntmps64
  go_wp2_with fail
  refine wp_loop_rounds 1 ?_
  rw [rounds_succ]
  go_wp2_with fail
  go_ret
  exact ⟨rfl, rfl⟩

set_option maxHeartbeats 400000 in
theorem fillMessage_none (B : Nat) (W : World) (hc : W.cell? ⟨B, 9, none⟩ = some (.slice none 0 0)) :
    Calls Tryz.prog 41 #[.pointer (some ⟨B, 0, none⟩)] W fun e w' => e = .returned (.tuple #[]) ∧ w' = W := by
  go_enter Tryz.func41, Tryz.ntmps41
  go_wp2_with fail
  refine wp_loop_rounds 1 ?_
  rw [rounds_succ]
  go_wp2_with fail
  go_end0
  exact ⟨rfl, rfl⟩

set_option maxHeartbeats 400000 in
theorem growMessage_none (B : Nat) (W : World) (hc : W.cell? ⟨B, 9, none⟩ = some (.slice none 0 0)) :
    Calls Tryz.prog 53 #[.pointer (some ⟨B, 0, none⟩)] W fun e w' => e = .returned (.tuple #[]) ∧ w' = W := by
  go_enter Tryz.func53, Tryz.ntmps53
  go_wp2_with fail
  refine wp_loop_rounds 1 ?_
  rw [rounds_succ]
  go_wp2_with fail
  go_end0
  exact ⟨rfl, rfl⟩

set_option maxHeartbeats 400000 in
theorem lookMessage_none (B : Nat) (W : World) (hc : W.cell? ⟨B, 9, none⟩ = some (.slice none 0 0)) :
    Calls Tryz.prog 65 #[.pointer (some ⟨B, 0, none⟩)] W fun e w' => e = .returned (.bool true) ∧ w' = W := by
  go_enter Tryz.func65, Tryz.ntmps65
  go_wp2_with fail
  refine wp_loop_rounds 1 ?_
  rw [rounds_succ]
  go_wp2_with fail
  go_ret
  exact ⟨rfl, rfl⟩

set_option maxHeartbeats 400000 in
theorem fillRule_none (B : Nat) (W : World) (hc : W.cell? ⟨B, 10, none⟩ = some (.slice none 0 0)) :
    Calls Tryz.prog 42 #[.pointer (some ⟨B, 0, none⟩)] W fun e w' => e = .returned (.tuple #[]) ∧ w' = W := by
  go_enter Tryz.func42, Tryz.ntmps42
  go_wp2_with fail
  refine wp_loop_rounds 1 ?_
  rw [rounds_succ]
  go_wp2_with fail
  go_end0
  exact ⟨rfl, rfl⟩

set_option maxHeartbeats 400000 in
theorem growRule_none (B : Nat) (W : World) (hc : W.cell? ⟨B, 10, none⟩ = some (.slice none 0 0)) :
    Calls Tryz.prog 54 #[.pointer (some ⟨B, 0, none⟩)] W fun e w' => e = .returned (.tuple #[]) ∧ w' = W := by
  go_enter Tryz.func54, Tryz.ntmps54
  go_wp2_with fail
  refine wp_loop_rounds 1 ?_
  rw [rounds_succ]
  go_wp2_with fail
  go_end0
  exact ⟨rfl, rfl⟩

set_option maxHeartbeats 400000 in
theorem lookRule_none (B : Nat) (W : World) (hc : W.cell? ⟨B, 10, none⟩ = some (.slice none 0 0)) :
    Calls Tryz.prog 66 #[.pointer (some ⟨B, 0, none⟩)] W fun e w' => e = .returned (.bool true) ∧ w' = W := by
  go_enter Tryz.func66, Tryz.ntmps66
  go_wp2_with fail
  refine wp_loop_rounds 1 ?_
  rw [rounds_succ]
  go_wp2_with fail
  go_ret
  exact ⟨rfl, rfl⟩

set_option maxHeartbeats 400000 in
theorem fillEvent_none (B : Nat) (W : World) (hc : W.cell? ⟨B, 11, none⟩ = some (.slice none 0 0)) :
    Calls Tryz.prog 43 #[.pointer (some ⟨B, 0, none⟩)] W fun e w' => e = .returned (.tuple #[]) ∧ w' = W := by
  go_enter Tryz.func43, Tryz.ntmps43
  go_wp2_with fail
  refine wp_loop_rounds 1 ?_
  rw [rounds_succ]
  go_wp2_with fail
  go_end0
  exact ⟨rfl, rfl⟩

set_option maxHeartbeats 400000 in
theorem growEvent_none (B : Nat) (W : World) (hc : W.cell? ⟨B, 11, none⟩ = some (.slice none 0 0)) :
    Calls Tryz.prog 55 #[.pointer (some ⟨B, 0, none⟩)] W fun e w' => e = .returned (.tuple #[]) ∧ w' = W := by
  go_enter Tryz.func55, Tryz.ntmps55
  go_wp2_with fail
  refine wp_loop_rounds 1 ?_
  rw [rounds_succ]
  go_wp2_with fail
  go_end0
  exact ⟨rfl, rfl⟩

set_option maxHeartbeats 400000 in
theorem lookEvent_none (B : Nat) (W : World) (hc : W.cell? ⟨B, 11, none⟩ = some (.slice none 0 0)) :
    Calls Tryz.prog 67 #[.pointer (some ⟨B, 0, none⟩)] W fun e w' => e = .returned (.bool true) ∧ w' = W := by
  go_enter Tryz.func67, Tryz.ntmps67
  go_wp2_with fail
  refine wp_loop_rounds 1 ?_
  rw [rounds_succ]
  go_wp2_with fail
  go_ret
  exact ⟨rfl, rfl⟩

set_option maxHeartbeats 400000 in
theorem fillReply_none (B : Nat) (W : World) (hc : W.cell? ⟨B, 12, none⟩ = some (.slice none 0 0)) :
    Calls Tryz.prog 44 #[.pointer (some ⟨B, 0, none⟩)] W fun e w' => e = .returned (.tuple #[]) ∧ w' = W := by
  go_enter Tryz.func44, Tryz.ntmps44
  go_wp2_with fail
  refine wp_loop_rounds 1 ?_
  rw [rounds_succ]
  go_wp2_with fail
  go_end0
  exact ⟨rfl, rfl⟩

set_option maxHeartbeats 400000 in
theorem growReply_none (B : Nat) (W : World) (hc : W.cell? ⟨B, 12, none⟩ = some (.slice none 0 0)) :
    Calls Tryz.prog 56 #[.pointer (some ⟨B, 0, none⟩)] W fun e w' => e = .returned (.tuple #[]) ∧ w' = W := by
  go_enter Tryz.func56, Tryz.ntmps56
  go_wp2_with fail
  refine wp_loop_rounds 1 ?_
  rw [rounds_succ]
  go_wp2_with fail
  go_end0
  exact ⟨rfl, rfl⟩

set_option maxHeartbeats 400000 in
theorem lookReply_none (B : Nat) (W : World) (hc : W.cell? ⟨B, 12, none⟩ = some (.slice none 0 0)) :
    Calls Tryz.prog 68 #[.pointer (some ⟨B, 0, none⟩)] W fun e w' => e = .returned (.bool true) ∧ w' = W := by
  go_enter Tryz.func68, Tryz.ntmps68
  go_wp2_with fail
  refine wp_loop_rounds 1 ?_
  rw [rounds_succ]
  go_wp2_with fail
  go_ret
  exact ⟨rfl, rfl⟩

set_option maxHeartbeats 400000 in
theorem fillRange_none (B : Nat) (W : World) (hc : W.cell? ⟨B, 6, none⟩ = some (.slice none 0 0)) :
    Calls Tryz.prog 38 #[.pointer (some ⟨B, 0, none⟩)] W fun e w' => e = .returned (.tuple #[]) ∧ w' = W := by
  go_enter Tryz.func38, Tryz.ntmps38
  go_wp2_with fail
  refine wp_loop_rounds 1 ?_
  rw [rounds_succ]
  go_wp2_with fail
  go_end0
  exact ⟨rfl, rfl⟩

set_option maxHeartbeats 400000 in
theorem growRange_none (B : Nat) (W : World) (hc : W.cell? ⟨B, 6, none⟩ = some (.slice none 0 0)) :
    Calls Tryz.prog 50 #[.pointer (some ⟨B, 0, none⟩)] W fun e w' => e = .returned (.tuple #[]) ∧ w' = W := by
  go_enter Tryz.func50, Tryz.ntmps50
  go_wp2_with fail
  refine wp_loop_rounds 1 ?_
  rw [rounds_succ]
  go_wp2_with fail
  go_end0
  exact ⟨rfl, rfl⟩

set_option maxHeartbeats 400000 in
theorem lookRange_none (B : Nat) (W : World) (hc : W.cell? ⟨B, 6, none⟩ = some (.slice none 0 0)) :
    Calls Tryz.prog 62 #[.pointer (some ⟨B, 0, none⟩)] W fun e w' => e = .returned (.bool true) ∧ w' = W := by
  go_enter Tryz.func62, Tryz.ntmps62
  go_wp2_with fail
  refine wp_loop_rounds 1 ?_
  rw [rounds_succ]
  go_wp2_with fail
  go_ret
  exact ⟨rfl, rfl⟩


/-- What one kind of lists in a Book keeps to: it is filled, grown and looked at, and stands while others are. -/
structure Kind (S B H : Nat) (ff fg fl : Nat) (st : Nat → Prop) where
  K : Nat → World → Prop
  fill : ∀ W, K 0 W → Calls Tryz.prog ff #[.pointer (some ⟨B, 0, none⟩)] W fun e w' => e = .returned (.tuple #[]) ∧ K 1 w' ∧ KeepP st W w'
  grow : ∀ W, K 1 W → H ≤ W.heap.size → Calls Tryz.prog fg #[.pointer (some ⟨B, 0, none⟩)] W fun e w' => e = .returned (.tuple #[]) ∧ K 2 w' ∧ KeepP st W w'
  look : ∀ W, K 2 W → Calls Tryz.prog fl #[.pointer (some ⟨B, 0, none⟩)] W fun e w' => e = .returned (.bool true) ∧ W.grownBy w' none
  keep : ∀ i W W' (st' : Nat → Prop), K i W → KeepP st' W W' → (∀ b, st' b → S ≤ b ∧ b < H ∧ ¬ st b ∧ b ≠ B) → K i W'
  low : ∀ b, st b → S ≤ b ∧ b < H ∧ b ≠ B

/-- The state of a Book of three kinds. -/
structure A3 {S B H : Nat} {fb gb lb fr gr lr ff gf lf : Nat} {sb sr sf : Nat → Prop} (kb : Kind S B H fb gb lb sb) (kr : Kind S B H fr gr lr sr) (kf : Kind S B H ff gf lf sf) (w0 : World) (i j l : Nat) (W : World) : Prop where
  b : kb.K i W
  r : kr.K j W
  f : kf.K l W
  em : ∀ j, 1 ≤ j → j < 13 → j ≠ 1 → j ≠ 6 → j ≠ 7 → W.cell? ⟨B, j, none⟩ = some (.slice none 0 0)
  bB : B < W.heap.size
  hH : H ≤ W.heap.size
  sS : S ≤ W.heap.size
  below : Below S w0 W
section
variable {S B H : Nat} {fb gb lb fr gr lr ff gf lf : Nat} {sb sr sf : Nat → Prop} {kb : Kind S B H fb gb lb sb} {kr : Kind S B H fr gr lr sr} {kf : Kind S B H ff gf lf sf} {w0 W W' : World} {i j l : Nat}
theorem A3.base {st : Nat → Prop} (a : A3 kb kr kf w0 i j l W) (k : KeepP st W W') (hl : ∀ b, st b → S ≤ b ∧ b < H ∧ b ≠ B) : (∀ j, 1 ≤ j → j < 13 → j ≠ 1 → j ≠ 6 → j ≠ 7 → W'.cell? ⟨B, j, none⟩ = some (.slice none 0 0)) ∧ B < W'.heap.size ∧ H ≤ W'.heap.size ∧ S ≤ W'.heap.size ∧ Below S w0 W' :=
  ⟨fun q h1 h2 h3 h4 h5 => (World.cell?_of_block (w := W) (a := ⟨B, q, none⟩) (k.block B a.bB (fun e => (hl B e).2.2 rfl))).trans (a.em q h1 h2 h3 h4 h5), Nat.lt_of_lt_of_le a.bB k.size, Nat.le_trans a.hH k.size, Nat.le_trans a.sS k.size, below_keepP a.below k a.sS (fun b e => (hl b e).1)⟩
theorem A3.onB (a : A3 kb kr kf w0 i j l W) (hbr : ∀ b, sb b → ¬ sr b) (hbf : ∀ b, sb b → ¬ sf b) (k : KeepP sb W W') {i' : Nat} (h : kb.K i' W') : A3 kb kr kf w0 i' j l W' := by
  obtain ⟨h1, h2, h3, h4, h5⟩ := a.base k kb.low
  exact ⟨h, kr.keep _ _ _ _ a.r k (fun b e => ⟨(kb.low b e).1, (kb.low b e).2.1, hbr b e, (kb.low b e).2.2⟩), kf.keep _ _ _ _ a.f k (fun b e => ⟨(kb.low b e).1, (kb.low b e).2.1, hbf b e, (kb.low b e).2.2⟩), h1, h2, h3, h4, h5⟩
theorem A3.onR (a : A3 kb kr kf w0 i j l W) (hrb : ∀ b, sr b → ¬ sb b) (hrf : ∀ b, sr b → ¬ sf b) (k : KeepP sr W W') {i' : Nat} (h : kr.K i' W') : A3 kb kr kf w0 i i' l W' := by
  obtain ⟨h1, h2, h3, h4, h5⟩ := a.base k kr.low
  exact ⟨kb.keep _ _ _ _ a.b k (fun b e => ⟨(kr.low b e).1, (kr.low b e).2.1, hrb b e, (kr.low b e).2.2⟩), h, kf.keep _ _ _ _ a.f k (fun b e => ⟨(kr.low b e).1, (kr.low b e).2.1, hrf b e, (kr.low b e).2.2⟩), h1, h2, h3, h4, h5⟩
theorem A3.onF (a : A3 kb kr kf w0 i j l W) (hfb : ∀ b, sf b → ¬ sb b) (hfr : ∀ b, sf b → ¬ sr b) (k : KeepP sf W W') {i' : Nat} (h : kf.K i' W') : A3 kb kr kf w0 i j i' W' := by
  obtain ⟨h1, h2, h3, h4, h5⟩ := a.base k kf.low
  exact ⟨kb.keep _ _ _ _ a.b k (fun b e => ⟨(kf.low b e).1, (kf.low b e).2.1, hfb b e, (kf.low b e).2.2⟩), kr.keep _ _ _ _ a.r k (fun b e => ⟨(kf.low b e).1, (kf.low b e).2.1, hfr b e, (kf.low b e).2.2⟩), h, h1, h2, h3, h4, h5⟩
theorem A3.on0 (a : A3 kb kr kf w0 i j l W) (g : W.grownBy W' none) : A3 kb kr kf w0 i j l W' := by
  have k : KeepP (fun _ => False) W W' := ⟨g.os, g.tape, g.output, g.size, fun b hb _ => g.block b hb (by simp)⟩
  obtain ⟨h1, h2, h3, h4, h5⟩ := a.base k (fun b e => e.elim)
  exact ⟨kb.keep _ _ _ _ a.b k (fun b e => e.elim), kr.keep _ _ _ _ a.r k (fun b e => e.elim), kf.keep _ _ _ _ a.f k (fun b e => e.elim), h1, h2, h3, h4, h5⟩
end

set_option maxRecDepth 20000 in
set_option maxHeartbeats 1000000 in
theorem apart3 {S B H : Nat} {sb sr sf : Nat → Prop} (kb : Kind S B H 33 45 57 sb) (kr : Kind S B H 38 50 62 sr) (kf : Kind S B H 39 51 63 sf)
    (hbr : ∀ b, sb b → ¬ sr b) (hbf : ∀ b, sb b → ¬ sf b) (hrf : ∀ b, sr b → ¬ sf b) (w0 W : World) (a : A3 kb kr kf w0 0 0 0 W) :
    Calls Tryz.prog 16 #[.pointer (some ⟨B, 0, none⟩)] W fun e w' => e = .returned (.bool true) ∧ Below S w0 w' ∧ KeepP (fun b => sb b ∨ sr b ∨ sf b) W w' := by
  have X1 := veil hbr
  have X2 := veil hbf
  have X3 := veil hrf
  have X4 := veil (show ∀ b, sr b → ¬ sb b from fun b h1 h2 => hbr b h2 h1)
  have X5 := veil (show ∀ b, sf b → ¬ sb b from fun b h1 h2 => hbf b h2 h1)
  have X6 := veil (show ∀ b, sf b → ¬ sr b from fun b h1 h2 => hrf b h2 h1)
  have A0 := veil a
  have Y0 : Hid (KeepP (fun b => sb b ∨ sr b ∨ sf b) W W) := KeepP.refl _ _
  clear hbr hbf hrf a
  go_enter Tryz.func16, Tryz.ntmps16
  go_wp2_with fail
  refine (kb.fill W A0.out.b).mono ?_
  rintro e1 w1 ⟨rfl, h1, k1⟩
  have A1 := veil (A0.out.onB X1.out X2.out k1 h1)
  have Y1 := veil (Y0.out.trans (show KeepP (fun b => sb b ∨ sr b ∨ sf b) _ _ from ⟨k1.os, k1.tape, k1.output, k1.size, fun b hb hn => k1.block b hb (fun e => hn (.inl e))⟩))
  clear A0 h1 k1
  go_wp2_with fail
  refine (fillNumber_none B w1 (A1.out.em 2 (by decide) (by decide) (by decide) (by decide) (by decide))).mono ?_
  rintro e2 wx ⟨rfl, hwx⟩
  obtain rfl := hwx.symm
  go_wp2_with fail
  refine (fillInt_none B w1 (A1.out.em 3 (by decide) (by decide) (by decide) (by decide) (by decide))).mono ?_
  rintro e2 wx ⟨rfl, hwx⟩
  obtain rfl := hwx.symm
  go_wp2_with fail
  refine (fillText_none B w1 (A1.out.em 4 (by decide) (by decide) (by decide) (by decide) (by decide))).mono ?_
  rintro e2 wx ⟨rfl, hwx⟩
  obtain rfl := hwx.symm
  go_wp2_with fail
  refine (fillBlob_none B w1 (A1.out.em 5 (by decide) (by decide) (by decide) (by decide) (by decide))).mono ?_
  rintro e2 wx ⟨rfl, hwx⟩
  obtain rfl := hwx.symm
  go_wp2_with fail
  refine (kr.fill w1 A1.out.r).mono ?_
  rintro e2 w2 ⟨rfl, h2, k2⟩
  have A2 := veil (A1.out.onR X4.out X3.out k2 h2)
  have Y2 := veil (Y1.out.trans (show KeepP (fun b => sb b ∨ sr b ∨ sf b) _ _ from ⟨k2.os, k2.tape, k2.output, k2.size, fun b hb hn => k2.block b hb (fun e => hn (.inr (.inl e)))⟩))
  clear A1 h2 k2
  go_wp2_with fail
  refine (kf.fill w2 A2.out.f).mono ?_
  rintro e3 w3 ⟨rfl, h3, k3⟩
  have A3 := veil (A2.out.onF X5.out X6.out k3 h3)
  have Y3 := veil (Y2.out.trans (show KeepP (fun b => sb b ∨ sr b ∨ sf b) _ _ from ⟨k3.os, k3.tape, k3.output, k3.size, fun b hb hn => k3.block b hb (fun e => hn (.inr (.inr e)))⟩))
  clear A2 h3 k3
  go_wp2_with fail
  refine (fillField_none B w3 (A3.out.em 8 (by decide) (by decide) (by decide) (by decide) (by decide))).mono ?_
  rintro e2 wx ⟨rfl, hwx⟩
  obtain rfl := hwx.symm
  go_wp2_with fail
  refine (fillMessage_none B w3 (A3.out.em 9 (by decide) (by decide) (by decide) (by decide) (by decide))).mono ?_
  rintro e2 wx ⟨rfl, hwx⟩
  obtain rfl := hwx.symm
  go_wp2_with fail
  refine (fillRule_none B w3 (A3.out.em 10 (by decide) (by decide) (by decide) (by decide) (by decide))).mono ?_
  rintro e2 wx ⟨rfl, hwx⟩
  obtain rfl := hwx.symm
  go_wp2_with fail
  refine (fillEvent_none B w3 (A3.out.em 11 (by decide) (by decide) (by decide) (by decide) (by decide))).mono ?_
  rintro e2 wx ⟨rfl, hwx⟩
  obtain rfl := hwx.symm
  go_wp2_with fail
  refine (fillReply_none B w3 (A3.out.em 12 (by decide) (by decide) (by decide) (by decide) (by decide))).mono ?_
  rintro e2 wx ⟨rfl, hwx⟩
  obtain rfl := hwx.symm
  go_wp2_with fail
  refine (kb.grow w3 A3.out.b A3.out.hH).mono ?_
  rintro e4 w4 ⟨rfl, h4, k4⟩
  have A4 := veil (A3.out.onB X1.out X2.out k4 h4)
  have Y4 := veil (Y3.out.trans (show KeepP (fun b => sb b ∨ sr b ∨ sf b) _ _ from ⟨k4.os, k4.tape, k4.output, k4.size, fun b hb hn => k4.block b hb (fun e => hn (.inl e))⟩))
  clear A3 h4 k4
  go_wp2_with fail
  refine (growNumber_none B w4 (A4.out.em 2 (by decide) (by decide) (by decide) (by decide) (by decide))).mono ?_
  rintro e2 wx ⟨rfl, hwx⟩
  obtain rfl := hwx.symm
  go_wp2_with fail
  refine (growInt_none B w4 (A4.out.em 3 (by decide) (by decide) (by decide) (by decide) (by decide))).mono ?_
  rintro e2 wx ⟨rfl, hwx⟩
  obtain rfl := hwx.symm
  go_wp2_with fail
  refine (growText_none B w4 (A4.out.em 4 (by decide) (by decide) (by decide) (by decide) (by decide))).mono ?_
  rintro e2 wx ⟨rfl, hwx⟩
  obtain rfl := hwx.symm
  go_wp2_with fail
  refine (growBlob_none B w4 (A4.out.em 5 (by decide) (by decide) (by decide) (by decide) (by decide))).mono ?_
  rintro e2 wx ⟨rfl, hwx⟩
  obtain rfl := hwx.symm
  go_wp2_with fail
  refine (kr.grow w4 A4.out.r A4.out.hH).mono ?_
  rintro e5 w5 ⟨rfl, h5, k5⟩
  have A5 := veil (A4.out.onR X4.out X3.out k5 h5)
  have Y5 := veil (Y4.out.trans (show KeepP (fun b => sb b ∨ sr b ∨ sf b) _ _ from ⟨k5.os, k5.tape, k5.output, k5.size, fun b hb hn => k5.block b hb (fun e => hn (.inr (.inl e)))⟩))
  clear A4 h5 k5
  go_wp2_with fail
  refine (kf.grow w5 A5.out.f A5.out.hH).mono ?_
  rintro e6 w6 ⟨rfl, h6, k6⟩
  have A6 := veil (A5.out.onF X5.out X6.out k6 h6)
  have Y6 := veil (Y5.out.trans (show KeepP (fun b => sb b ∨ sr b ∨ sf b) _ _ from ⟨k6.os, k6.tape, k6.output, k6.size, fun b hb hn => k6.block b hb (fun e => hn (.inr (.inr e)))⟩))
  clear A5 h6 k6
  go_wp2_with fail
  refine (growField_none B w6 (A6.out.em 8 (by decide) (by decide) (by decide) (by decide) (by decide))).mono ?_
  rintro e2 wx ⟨rfl, hwx⟩
  obtain rfl := hwx.symm
  go_wp2_with fail
  refine (growMessage_none B w6 (A6.out.em 9 (by decide) (by decide) (by decide) (by decide) (by decide))).mono ?_
  rintro e2 wx ⟨rfl, hwx⟩
  obtain rfl := hwx.symm
  go_wp2_with fail
  refine (growRule_none B w6 (A6.out.em 10 (by decide) (by decide) (by decide) (by decide) (by decide))).mono ?_
  rintro e2 wx ⟨rfl, hwx⟩
  obtain rfl := hwx.symm
  go_wp2_with fail
  refine (growEvent_none B w6 (A6.out.em 11 (by decide) (by decide) (by decide) (by decide) (by decide))).mono ?_
  rintro e2 wx ⟨rfl, hwx⟩
  obtain rfl := hwx.symm
  go_wp2_with fail
  refine (growReply_none B w6 (A6.out.em 12 (by decide) (by decide) (by decide) (by decide) (by decide))).mono ?_
  rintro e2 wx ⟨rfl, hwx⟩
  obtain rfl := hwx.symm
  go_wp2_with fail
  refine (kb.look w6 A6.out.b).mono ?_
  rintro e7 w7 ⟨rfl, g7⟩
  have A7 := veil (A6.out.on0 g7)
  have Y7 := veil (Y6.out.trans (show KeepP (fun b => sb b ∨ sr b ∨ sf b) _ _ from ⟨g7.os, g7.tape, g7.output, g7.size, fun b hb _ => g7.block b hb (by simp)⟩))
  clear A6 g7
  go_wp2_with fail
  refine (lookNumber_none B w7 (A7.out.em 2 (by decide) (by decide) (by decide) (by decide) (by decide))).mono ?_
  rintro e2 wx ⟨rfl, hwx⟩
  obtain rfl := hwx.symm
  go_wp2_with fail
  refine (lookInt_none B w7 (A7.out.em 3 (by decide) (by decide) (by decide) (by decide) (by decide))).mono ?_
  rintro e2 wx ⟨rfl, hwx⟩
  obtain rfl := hwx.symm
  go_wp2_with fail
  refine (lookText_none B w7 (A7.out.em 4 (by decide) (by decide) (by decide) (by decide) (by decide))).mono ?_
  rintro e2 wx ⟨rfl, hwx⟩
  obtain rfl := hwx.symm
  go_wp2_with fail
  refine (lookBlob_none B w7 (A7.out.em 5 (by decide) (by decide) (by decide) (by decide) (by decide))).mono ?_
  rintro e2 wx ⟨rfl, hwx⟩
  obtain rfl := hwx.symm
  go_wp2_with fail
  refine (kr.look w7 A7.out.r).mono ?_
  rintro e8 w8 ⟨rfl, g8⟩
  have A8 := veil (A7.out.on0 g8)
  have Y8 := veil (Y7.out.trans (show KeepP (fun b => sb b ∨ sr b ∨ sf b) _ _ from ⟨g8.os, g8.tape, g8.output, g8.size, fun b hb _ => g8.block b hb (by simp)⟩))
  clear A7 g8
  go_wp2_with fail
  refine (kf.look w8 A8.out.f).mono ?_
  rintro e9 w9 ⟨rfl, g9⟩
  have A9 := veil (A8.out.on0 g9)
  have Y9 := veil (Y8.out.trans (show KeepP (fun b => sb b ∨ sr b ∨ sf b) _ _ from ⟨g9.os, g9.tape, g9.output, g9.size, fun b hb _ => g9.block b hb (by simp)⟩))
  clear A8 g9
  go_wp2_with fail
  refine (lookField_none B w9 (A9.out.em 8 (by decide) (by decide) (by decide) (by decide) (by decide))).mono ?_
  rintro e2 wx ⟨rfl, hwx⟩
  obtain rfl := hwx.symm
  go_wp2_with fail
  refine (lookMessage_none B w9 (A9.out.em 9 (by decide) (by decide) (by decide) (by decide) (by decide))).mono ?_
  rintro e2 wx ⟨rfl, hwx⟩
  obtain rfl := hwx.symm
  go_wp2_with fail
  refine (lookRule_none B w9 (A9.out.em 10 (by decide) (by decide) (by decide) (by decide) (by decide))).mono ?_
  rintro e2 wx ⟨rfl, hwx⟩
  obtain rfl := hwx.symm
  go_wp2_with fail
  refine (lookEvent_none B w9 (A9.out.em 11 (by decide) (by decide) (by decide) (by decide) (by decide))).mono ?_
  rintro e2 wx ⟨rfl, hwx⟩
  obtain rfl := hwx.symm
  go_wp2_with fail
  refine (lookReply_none B w9 (A9.out.em 12 (by decide) (by decide) (by decide) (by decide) (by decide))).mono ?_
  rintro e2 wx ⟨rfl, hwx⟩
  obtain rfl := hwx.symm
  go_wp2_with fail
  go_ret
  exact ⟨rfl, A9.out.below, Y9.out⟩
end Go.Proofs.YtimhbjlmpojhoaaGreatDoor.Ba

/-! What each kind of lists of a Book keeps to. Written by mkbkk.py. -/
namespace Go.Proofs.YtimhbjlmpojhoaaGreatDoor.Ba
open Go Go.RowKit
open Go.Proofs.YtimhbjlmpojhoaaGreatDoor.Bq (OwnB own_keepP below_keepP keep_grown keep_below Sep)

theorem keep_mono {s t : Nat → Prop} {W W' : World} (h : KeepP s W W') (hst : ∀ b, s b → t b) : KeepP t W W' := ⟨h.os, h.tape, h.output, h.size, fun b hb hn => h.block b hb (fun e => hn (hst b e))⟩

/-- No list of this kind. -/
def noneByte (S B H : Nat) : Kind S B H 33 45 57 (fun _ => False) where
  K := fun _ W => W.cell? ⟨B, 1, none⟩ = some (.slice none 0 0) ∧ B < W.heap.size
  fill := fun W h => (fillByte_none B W h.1).mono fun _ _ ⟨h1, h2⟩ => ⟨h1, by rw [h2]; exact h, by rw [h2]; exact KeepP.refl _ _⟩
  grow := fun W h _ => (growByte_none B W h.1).mono fun _ _ ⟨h1, h2⟩ => ⟨h1, by rw [h2]; exact h, by rw [h2]; exact KeepP.refl _ _⟩
  look := fun W h => (lookByte_none B W h.1).mono fun _ _ ⟨h1, h2⟩ => ⟨h1, by rw [h2]; exact ⟨rfl, rfl, rfl, Nat.le_refl _, fun _ _ _ => rfl⟩⟩
  keep := fun _ W W' st' h k hl => ⟨(World.cell?_of_block (w := W) (a := ⟨B, 1, none⟩) (k.block B h.2 (fun e => (hl B e).2.2.2 rfl))).trans h.1, Nat.lt_of_lt_of_le h.2 k.size⟩
  low := fun _ e => e.elim
/-- Some lists of this kind. -/
def kindByte (S B H h m cap : Nat) (nu : Nat → Nat) (E : Nat → Value) (N : Nat → Nat) (X : Nat → List Value) (w0 : World) (hnu : ∀ i, i < m → nu i ≤ 5000000) (hm : m ≤ 3000000) (hN : ∀ i, i < m → N i ≤ 5000000) (sep : Sep S B h m E) (hlow : ∀ i, i < m → ∀ b, (E i).ownBlock = some b → S ≤ b ∧ b < H) (hh : h < H) :
    Kind S B H 33 45 57 (fun b => Bq.OwnB m E b ∨ b = h) where
  K := fun i W => match i with
    | 0 => Bb.St S B h m cap nu E N (fun _ => .slice none 0 0) X w0 W
    | 1 => Bb.St S B h m cap nu E N (fun _ => .slice none 0 0) (fun i => List.replicate (N i) (Bb.mark (nu i))) w0 W
    | _ => ∃ Lg, Bb.St S B h m cap nu E N Lg (fun i => List.replicate (N i) (Bb.mark (nu i))) w0 W ∧ Bb.Gr S B h m m nu E N Lg W ∧ ∀ j, j < m → ∀ b, (Lg j).ownBlock = some b → Bq.OwnB m E b ∨ H ≤ b
  fill := fun W s => (Bb.fill_any S B h m cap nu E N _ X w0 W hnu hm hN (fun _ _ => rfl) sep s).mono fun _ _ ⟨h1, h2, h3⟩ => ⟨h1, h2, keep_mono h3 fun _ e => .inl e⟩
  grow := fun W s hW => (Bb.bk_grow_any S B h m cap nu E N _ w0 W hnu hm hN (fun _ _ => rfl) sep s).mono fun _ _ ⟨h1, Lg, h2, h3, h4, h5⟩ => ⟨h1, ⟨Lg, h2, h3, fun j hj b e => (h5 j hj b e).imp id (fun q => Nat.le_trans hW q)⟩, h4⟩
  look := fun W ⟨Lg, s, g, _⟩ => Bb.look_any S B h m cap nu E N Lg w0 W hnu hm hN s g
  keep := fun i W W' st' s k hl => by
    have h1 : ∀ b, st' b → S ≤ b := fun b e => (hl b e).1
    have h2 : ¬ st' B := fun e => (hl B e).2.2.2 rfl
    have h3 : ¬ st' h := fun e => (hl h e).2.2.1 (.inr rfl)
    have h4 : ∀ i, i < m → ∀ b, (E i).ownBlock = some b → ¬ st' b := fun i hi b hb e => (hl b e).2.2.1 (.inl ⟨i, hi, hb⟩)
    match i, s with
    | 0, s => exact Bb.St.keep s k h1 h2 h3 h4
    | 1, s => exact Bb.St.keep s k h1 h2 h3 h4
    | _ + 2, ⟨Lg, s, g, q⟩ =>
      refine ⟨Lg, Bb.St.keep s k h1 h2 h3 h4, Bb.Gr.keep g k (fun j hj b hb e => ?_), q⟩
      rcases q j hj b hb with hq | hq
      · exact (hl b e).2.2.1 (.inl hq)
      · have := (hl b e).2.1
        omega
  low := fun b e => by
    rcases e with ⟨i, hi, hb⟩ | rfl
    · exact ⟨(hlow i hi b hb).1, (hlow i hi b hb).2, fun e => sep.eB i hi (by rw [hb, e])⟩
    · exact ⟨sep.Sh, hh, fun e => sep.Bh e.symm⟩

/-- No list of this kind. -/
def noneRange (S B H : Nat) : Kind S B H 38 50 62 (fun _ => False) where
  K := fun _ W => W.cell? ⟨B, 6, none⟩ = some (.slice none 0 0) ∧ B < W.heap.size
  fill := fun W h => (fillRange_none B W h.1).mono fun _ _ ⟨h1, h2⟩ => ⟨h1, by rw [h2]; exact h, by rw [h2]; exact KeepP.refl _ _⟩
  grow := fun W h _ => (growRange_none B W h.1).mono fun _ _ ⟨h1, h2⟩ => ⟨h1, by rw [h2]; exact h, by rw [h2]; exact KeepP.refl _ _⟩
  look := fun W h => (lookRange_none B W h.1).mono fun _ _ ⟨h1, h2⟩ => ⟨h1, by rw [h2]; exact ⟨rfl, rfl, rfl, Nat.le_refl _, fun _ _ _ => rfl⟩⟩
  keep := fun _ W W' st' h k hl => ⟨(World.cell?_of_block (w := W) (a := ⟨B, 6, none⟩) (k.block B h.2 (fun e => (hl B e).2.2.2 rfl))).trans h.1, Nat.lt_of_lt_of_le h.2 k.size⟩
  low := fun _ e => e.elim
/-- Some lists of this kind. -/
def kindRange (S B H h m cap : Nat) (nu : Nat → Nat) (E : Nat → Value) (N : Nat → Nat) (X : Nat → List (Nat × Nat)) (w0 : World) (hnu : ∀ i, i < m → nu i ≤ 5000000) (hm : m ≤ 3000000) (hN : ∀ i, i < m → N i ≤ 5000000) (sep : Sep S B h m E) (hlow : ∀ i, i < m → ∀ b, (E i).ownBlock = some b → S ≤ b ∧ b < H) (hh : h < H) :
    Kind S B H 38 50 62 (fun b => Bq.OwnB m E b ∨ b = h) where
  K := fun i W => match i with
    | 0 => Bq.St S B h m cap nu E N (fun _ => .slice none 0 0) X w0 W
    | 1 => Bq.St S B h m cap nu E N (fun _ => .slice none 0 0) (fun i => List.replicate (N i) (Bq.mk (nu i))) w0 W
    | _ => ∃ Lg, Bq.St S B h m cap nu E N Lg (fun i => List.replicate (N i) (Bq.mk (nu i))) w0 W ∧ Bq.Gr S B h m m nu E N Lg W ∧ ∀ j, j < m → ∀ b, (Lg j).ownBlock = some b → Bq.OwnB m E b ∨ H ≤ b
  fill := fun W s => (Bq.fill_any S B h m cap nu E N _ X w0 W hnu hm hN (fun _ _ => rfl) sep s).mono fun _ _ ⟨h1, h2, h3⟩ => ⟨h1, h2, keep_mono h3 fun _ e => .inl e⟩
  grow := fun W s hW => (Bq.bk_grow_any S B h m cap nu E N _ w0 W hnu hm hN (fun _ _ => rfl) sep s).mono fun _ _ ⟨h1, Lg, h2, h3, h4, h5⟩ => ⟨h1, ⟨Lg, h2, h3, fun j hj b e => (h5 j hj b e).imp id (fun q => Nat.le_trans hW q)⟩, h4⟩
  look := fun W ⟨Lg, s, g, _⟩ => Bq.look_any S B h m cap nu E N Lg w0 W hnu hm hN s g
  keep := fun i W W' st' s k hl => by
    have h1 : ∀ b, st' b → S ≤ b := fun b e => (hl b e).1
    have h2 : ¬ st' B := fun e => (hl B e).2.2.2 rfl
    have h3 : ¬ st' h := fun e => (hl h e).2.2.1 (.inr rfl)
    have h4 : ∀ i, i < m → ∀ b, (E i).ownBlock = some b → ¬ st' b := fun i hi b hb e => (hl b e).2.2.1 (.inl ⟨i, hi, hb⟩)
    match i, s with
    | 0, s => exact Bq.St.keep s k h1 h2 h3 h4
    | 1, s => exact Bq.St.keep s k h1 h2 h3 h4
    | _ + 2, ⟨Lg, s, g, q⟩ =>
      refine ⟨Lg, Bq.St.keep s k h1 h2 h3 h4, Bq.Gr.keep g k (fun j hj b hb e => ?_), q⟩
      rcases q j hj b hb with hq | hq
      · exact (hl b e).2.2.1 (.inl hq)
      · have := (hl b e).2.1
        omega
  low := fun b e => by
    rcases e with ⟨i, hi, hb⟩ | rfl
    · exact ⟨(hlow i hi b hb).1, (hlow i hi b hb).2, fun e => sep.eB i hi (by rw [hb, e])⟩
    · exact ⟨sep.Sh, hh, fun e => sep.Bh e.symm⟩

/-- No list of this kind. -/
def noneFrame (S B H : Nat) : Kind S B H 39 51 63 (fun _ => False) where
  K := fun _ W => W.cell? ⟨B, 7, none⟩ = some (.slice none 0 0) ∧ B < W.heap.size
  fill := fun W h => (fillFrame_none B W h.1).mono fun _ _ ⟨h1, h2⟩ => ⟨h1, by rw [h2]; exact h, by rw [h2]; exact KeepP.refl _ _⟩
  grow := fun W h _ => (growFrame_none B W h.1).mono fun _ _ ⟨h1, h2⟩ => ⟨h1, by rw [h2]; exact h, by rw [h2]; exact KeepP.refl _ _⟩
  look := fun W h => (lookFrame_none B W h.1).mono fun _ _ ⟨h1, h2⟩ => ⟨h1, by rw [h2]; exact ⟨rfl, rfl, rfl, Nat.le_refl _, fun _ _ _ => rfl⟩⟩
  keep := fun _ W W' st' h k hl => ⟨(World.cell?_of_block (w := W) (a := ⟨B, 7, none⟩) (k.block B h.2 (fun e => (hl B e).2.2.2 rfl))).trans h.1, Nat.lt_of_lt_of_le h.2 k.size⟩
  low := fun _ e => e.elim
/-- Some lists of this kind. -/
def kindFrame (S B H h m cap : Nat) (nu : Nat → Nat) (E : Nat → Value) (N : Nat → Nat) (X : Nat → List (Nat → Value)) (w0 : World) (hnu : ∀ i, i < m → nu i ≤ 5000000) (hm : m ≤ 3000000) (hN : ∀ i, i < m → N i ≤ 5000000) (sep : Sep S B h m E) (hlow : ∀ i, i < m → ∀ b, (E i).ownBlock = some b → S ≤ b ∧ b < H) (hh : h < H) :
    Kind S B H 39 51 63 (fun b => Bq.OwnB m E b ∨ b = h) where
  K := fun i W => match i with
    | 0 => Bf.St S B h m cap nu E N (fun _ => .slice none 0 0) X w0 W
    | 1 => Bf.St S B h m cap nu E N (fun _ => .slice none 0 0) (fun i => List.replicate (N i) (Bf.mk (nu i))) w0 W
    | _ => ∃ Lg, Bf.St S B h m cap nu E N Lg (fun i => List.replicate (N i) (Bf.mk (nu i))) w0 W ∧ Bf.Gr S B h m m nu E N Lg W ∧ ∀ j, j < m → ∀ b, (Lg j).ownBlock = some b → Bq.OwnB m E b ∨ H ≤ b
  fill := fun W s => (Bf.fill_any S B h m cap nu E N _ X w0 W hnu hm hN (fun _ _ => rfl) sep s).mono fun _ _ ⟨h1, h2, h3⟩ => ⟨h1, h2, keep_mono h3 fun _ e => .inl e⟩
  grow := fun W s hW => (Bf.bk_grow_any S B h m cap nu E N _ w0 W hnu hm hN (fun _ _ => rfl) sep s).mono fun _ _ ⟨h1, Lg, h2, h3, h4, h5⟩ => ⟨h1, ⟨Lg, h2, h3, fun j hj b e => (h5 j hj b e).imp id (fun q => Nat.le_trans hW q)⟩, h4⟩
  look := fun W ⟨Lg, s, g, _⟩ => Bf.look_any S B h m cap nu E N Lg w0 W hnu hm hN s g
  keep := fun i W W' st' s k hl => by
    have h1 : ∀ b, st' b → S ≤ b := fun b e => (hl b e).1
    have h2 : ¬ st' B := fun e => (hl B e).2.2.2 rfl
    have h3 : ¬ st' h := fun e => (hl h e).2.2.1 (.inr rfl)
    have h4 : ∀ i, i < m → ∀ b, (E i).ownBlock = some b → ¬ st' b := fun i hi b hb e => (hl b e).2.2.1 (.inl ⟨i, hi, hb⟩)
    match i, s with
    | 0, s => exact Bf.St.keep s k h1 h2 h3 h4
    | 1, s => exact Bf.St.keep s k h1 h2 h3 h4
    | _ + 2, ⟨Lg, s, g, q⟩ =>
      refine ⟨Lg, Bf.St.keep s k h1 h2 h3 h4, Bf.Gr.keep g k (fun j hj b hb e => ?_), q⟩
      rcases q j hj b hb with hq | hq
      · exact (hl b e).2.2.1 (.inl hq)
      · have := (hl b e).2.1
        omega
  low := fun b e => by
    rcases e with ⟨i, hi, hb⟩ | rfl
    · exact ⟨(hlow i hi b hb).1, (hlow i hi b hb).2, fun e => sep.eB i hi (by rw [hb, e])⟩
    · exact ⟨sep.Sh, hh, fun e => sep.Bh e.symm⟩
end Go.Proofs.YtimhbjlmpojhoaaGreatDoor.Ba

/-! What the statements' helper TwinRanges does to memory. -/
namespace Go.Proofs.YtimhbjlmpojhoaaGreatDoor
open Go Go.RowKit

end Go.Proofs.YtimhbjlmpojhoaaGreatDoor

/-! What the statements' helper LeftRanges answers of a copy that is kept. -/
namespace Go.Proofs.YtimhbjlmpojhoaaGreatDoor
open Go Go.RowKit

/-- A copy of ranges, with its mark behind. -/
structure TwinR (w : World) (g : Nat) (l : List (Nat × Nat)) : Prop where
  lt : g < w.heap.size
  cell : ∀ j : Nat, j < l.length → w.cell? ⟨g, j * 2, none⟩ = some (.int .u64 ((gr l j).1 : Int)) ∧ w.cell? ⟨g, j * 2 + 1, none⟩ = some (.int .u64 ((gr l j).2 : Int))
  mark : w.cell? ⟨g, l.length * 2, none⟩ = some (.int .u64 77) ∧ w.cell? ⟨g, l.length * 2 + 1, none⟩ = some (.int .u64 0)
theorem TwinR.below {w w' : World} {g : Nat} {l : List (Nat × Nat)} (h : TwinR w g l) (hb : Below w.heap.size w w') : TwinR w' g l :=
  ⟨Nat.lt_of_lt_of_le h.lt hb.size, fun j hj => ⟨(hb.cell (p := ⟨g, j * 2, none⟩) h.lt).trans (h.cell j hj).1, (hb.cell (p := ⟨g, j * 2 + 1, none⟩) h.lt).trans (h.cell j hj).2⟩, ⟨(hb.cell (p := ⟨g, l.length * 2, none⟩) h.lt).trans h.mark.1, (hb.cell (p := ⟨g, l.length * 2 + 1, none⟩) h.lt).trans h.mark.2⟩⟩
theorem TwinR.of_own {w : World} {base g n : Nat} {l : List (Nat × Nat)} (h : w.ownsRow base 114 2 (.slice (some ⟨g, 0, none⟩) (n + 1) (n + 1)) (n + 1) (vr (l ++ [(77, 0)]))) : TwinR w g l := by
  have hlt := (h.lt g rfl).2
  have hc : ∀ j u, (vr (l ++ [(77, 0)]))[j]? = some u → w.cell? ⟨g, j, none⟩ = some u := fun j u hu => by
    have := h.cells (g := g) rfl j u hu
    rw [add_at, Nat.zero_add] at this
    exact this
  have hg : ∀ j, j < l.length → gr (l ++ [(77, 0)]) j = gr l j := fun j hj => by
    unfold gr
    rw [List.getElem?_append_left hj]
  have hm : gr (l ++ [(77, 0)]) l.length = (77, 0) := by
    unfold gr
    simp
  refine ⟨hlt, fun j hj => ?_, ?_⟩
  · have := vr_at (l ++ [(77, 0)]) j (by rw [List.length_append]; exact Nat.lt_of_lt_of_le hj (Nat.le_add_right _ _))
    rw [hg j hj] at this
    exact ⟨hc _ _ this.1, hc _ _ this.2⟩
  · have := vr_at (l ++ [(77, 0)]) l.length (by simp)
    rw [hm] at this
    exact ⟨hc _ _ this.1, hc _ _ this.2⟩

end Go.Proofs.YtimhbjlmpojhoaaGreatDoor
