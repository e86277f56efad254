/-
  What a Book of lists of ranges looks at in the end: every mark is there. Written by mklook8.py.
-/
import Derived.Test.YtehadfidenejdaaGreatDoorGp5
namespace Go.Proofs.YtehadfidenejdaaGreatDoor.Bq
open Go Go.RowKit

theorem grown_of_below {w W : World} (hb : Below w.heap.size w W) : w.grownBy W none := ⟨hb.os, hb.tape, hb.output, hb.size, fun k hk _ => hb.block k hk⟩
theorem gr_rep (n q : Nat) (u : Nat × Nat) (h : q < n) : gr (List.replicate n u) q = u := by
  unfold gr
  rw [List.getElem?_replicate, if_pos h]
  rfl
theorem rep_range {W : World} {S g c n q : Nat} {u : Nat × Nat} (h : W.ownsRow S 93 2 (.slice (some ⟨g, 0, none⟩) n c) n (vr (List.replicate n u))) (hq : q < n) : W.rangeAt g (0 + q * 2) (rC2 u).toList := by
  have := own_range h (List.length_replicate ..) q hq
  rwa [gr_rep n q u hq] at this
def depL8 : Nat → List Nat
  | 1 => [0]
  | 3 => [1, 2]
  | 4 => [3]
  | 6 => [5]
  | 7 => [4, 6]
  | 8 => [7]
  | 9 => [8]
  | 10 => [9]
  | 11 => [9]
  | 12 => [9, 11]
  | 13 => [9, 12]
  | 14 => [9, 10, 13]
  | 15 => [9, 14]
  | 16 => [15]
  | 17 => [15, 16]
  | 18 => [15]
  | 19 => [15, 17, 18]
  | 20 => [15, 19]
  | 21 => [15]
  | 22 => [15, 21]
  | 23 => [15, 20, 22]
  | 24 => [15, 23]
  | 25 => [9, 15, 24]
  | 26 => [9, 25]
  | _ => []
def valLT (Hb gg cc g nk c q k : Nat) : Nat → Value
  | 0 => .pointer (some ⟨Hb, 1, none⟩)
  | 1 => .slice (some ⟨gg, 0, none⟩) (nk + 40) cc
  | 2 => .int .i64 (q : Int)
  | 3 => .pointer (some ⟨gg, 0 + q * 2, none⟩)
  | 4 => .agg (rC2 (mk k))
  | 5 => .pointer (some ⟨Hb, 2, none⟩)
  | 6 => .int .i64 (k : Int)
  | 7 => .bool true
  | 8 => .bool false
  | 9 => .bool false
  | 10 => .int .i64 (q : Int)
  | 11 => .pointer (some ⟨Hb, 0, none⟩)
  | 12 => .slice (some ⟨g, 0, none⟩) nk c
  | 13 => .int .i64 (nk : Int)
  | 14 => .bool true
  | 15 => .bool true
  | 16 => .pointer (some ⟨Hb, 0, none⟩)
  | 17 => .slice (some ⟨g, 0, none⟩) nk c
  | 18 => .int .i64 (q : Int)
  | 19 => .pointer (some ⟨g, 0 + q * 2, none⟩)
  | 20 => .agg (rC2 (mk k))
  | 21 => .pointer (some ⟨Hb, 2, none⟩)
  | 22 => .int .i64 (k : Int)
  | 23 => .bool true
  | 24 => .bool false
  | 25 => .bool false
  | _ => .bool false
def valLU (Hb gg cc nk c q k : Nat) (ao : Option Addr) : Nat → Value
  | 0 => .pointer (some ⟨Hb, 1, none⟩)
  | 1 => .slice (some ⟨gg, 0, none⟩) (nk + 40) cc
  | 2 => .int .i64 (q : Int)
  | 3 => .pointer (some ⟨gg, 0 + q * 2, none⟩)
  | 4 => .agg (rC2 (mk k))
  | 5 => .pointer (some ⟨Hb, 2, none⟩)
  | 6 => .int .i64 (k : Int)
  | 7 => .bool true
  | 8 => .bool false
  | 9 => .bool false
  | 10 => .int .i64 (q : Int)
  | 11 => .pointer (some ⟨Hb, 0, none⟩)
  | 12 => .slice ao nk c
  | 13 => .int .i64 (nk : Int)
  | 14 => .bool false
  | 15 => .bool false
  | 16 => undef
  | 17 => undef
  | 18 => undef
  | 19 => undef
  | 20 => undef
  | 21 => undef
  | 22 => undef
  | 23 => undef
  | 24 => undef
  | 25 => .bool false
  | _ => .bool false

set_option maxRecDepth 20000 in
set_option maxHeartbeats 1000000 in
theorem look_any (S B h m cap : Nat) (nu : Nat → Nat) (E : Nat → Value) (N : Nat → Nat) (Lg : Nat → Value) (w0 wL : World) (hnu : ∀ i, i < m → nu i ≤ 5000000) (hm2 : m ≤ 3000000) (hN : ∀ i, i < m → N i ≤ 5000000) (st : St S B h m cap nu E N Lg (fun i => List.replicate (N i) (mk (nu i))) w0 wL) (gr : Gr S B h m m nu E N Lg wL) :
    Calls Tryz.prog 81 #[.pointer (some ⟨B, 0, none⟩)] wL fun e w' => e = .returned (.bool true) ∧ wL.grownBy w' none := by
  have HST := veil st
  have HGR := veil gr
  have hc := st.book
  have hbB := st.bB
  have hbh := st.bh
  clear st gr
  refine (callsIn_wide (n := 4)).1 ?_
  refine callsIn_of_wp Tryz.func81 rfl trivial ?_ rfl
  simp only [Tryz.ntmps81, List.size_toArray, List.length_cons, List.length_nil, Nat.reduceAdd, Nat.reduceSub, Array.replicate_succ, Array.replicate_zero, List.push_toArray, List.append_toArray, List.nil_append, List.cons_append]
  gi_wp2_with fail
  gi_loopw [3] (fun i wr => ∃ k : Nat, k ≤ m ∧ i = .int .i64 k ∧ wL.grownBy wr none) (fun i _ => m - (intOf i).toNat)
  case atStart => exact ⟨0, Nat.zero_le _, rfl, rfl, rfl, rfl, Nat.le_refl _, fun _ _ _ => rfl⟩
  case round =>
    obtain ⟨k, hk, rfl, hg⟩ := hrel
    have hcb : wr.cell? ⟨B, 6, none⟩ = some (.slice (some ⟨h, 0, none⟩) m cap) := hg.cell hc (by simp)
    have hsz := hg.size
    by_cases hlt : k < m
    · obtain ⟨ao, c, hE⟩ : ∃ ao c, E k = .slice ao (N k) c := by
        rcases bookOwn_shape (HST.out.rows k hlt) with ⟨h1, h2⟩ | ⟨g, c, h1, _⟩
        · exact ⟨none, 0, by rw [h1, h2]⟩
        · exact ⟨some ⟨g, 0, none⟩, c, h1⟩
      obtain ⟨gg, cc, hL⟩ : ∃ gg cc, Lg k = .slice (some ⟨gg, 0, none⟩) (N k + 40) cc := by
        rcases bookOwn_shape (HGR.out.rows k hlt) with ⟨_, h0⟩ | ⟨gg, cc, h1, _⟩
        · omega
        · exact ⟨gg, cc, h1⟩
      have HE := veil hE
      have HL := veil hL
      have c0 : wr.cell? ⟨h, k * 3, none⟩ = some (.slice ao (N k) c) := (hg.cell (HST.out.l k hlt) (by simp)).trans (by rw [hE])
      have c1 : wr.cell? ⟨h, k * 3 + 1, none⟩ = some (.slice (some ⟨gg, 0, none⟩) (N k + 40) cc) := (hg.cell (HST.out.g k hlt) (by simp)).trans (by rw [hL])
      have c2 : wr.cell? ⟨h, k * 3 + 2, none⟩ = some (.int .i64 (nu k : Int)) := hg.cell (HST.out.n k hlt) (by simp)
      have hNk := hN k hlt
      have hkm : nu k ≤ 5000000 := hnu k hlt
      have HG := veil hg
      have hne : decide (((N k + 40 : Nat) : Int) = ((N k : Nat) : Int) + 40) = true := by simp
      clear hg hE hL
      gi_wp2_with fail
      obtain ⟨wo, rfl⟩ : ∃ wo : World, wo = wr := ⟨_, rfl⟩
      have HA := veil (show wL.grownBy (wo.alloc (.cells #[.slice ao (N k) c, .slice (some ⟨gg, 0, none⟩) (N k + 40) cc, .int .i64 (nu k : Int)] 120)) none from HG.out.trans (World.grownBy_alloc _ _ _))
      gi_loopw [5] (fun i wq => ∃ q : Nat, q ≤ N k + 40 ∧ i = .int .i64 q ∧ wL.grownBy wq none ∧ wq.cell? ⟨wo.heap.size, 0, none⟩ = some (.slice ao (N k) c) ∧ wq.cell? ⟨wo.heap.size, 1, none⟩ = some (.slice (some ⟨gg, 0, none⟩) (N k + 40) cc) ∧ wq.cell? ⟨wo.heap.size, 2, none⟩ = some (.int .i64 (nu k : Int)) ∧ wo.heap.size < wq.heap.size) (fun i _ => N k + 40 - (intOf i).toNat)
      case atStart => exact ⟨0, Nat.zero_le _, rfl, HA.out, by simp, by simp, by simp, by simp⟩
      case round =>
        obtain ⟨q, hq, rfl, hg2, p0, p1, p2, hsq⟩ := hrel
        have HG2 := veil hg2
        clear HA
        by_cases hq2 : q < N k + 40
        · have rowL : ∀ W', wL.grownBy W' none → W'.ownsRow S 93 2 (.slice (some ⟨gg, 0, none⟩) (N k + 40) cc) (N k + 40) (vr (List.replicate (N k + 40) (mk (nu k)))) := by
            intro W' hb
            have := HGR.out.rows k hlt
            rw [HL.out] at this
            exact this.kept hb (.inr (by simp [Value.ownBlock]))
          have i1 : (0 : Int) ≤ (q : Int) := by omega
          have i2 : (q : Int) < ((N k + 40 : Nat) : Int) := by omega
          by_cases hq3 : q < N k
          · obtain ⟨g, hao⟩ : ∃ g, ao = some ⟨g, 0, none⟩ := by
              rcases bookOwn_shape (HST.out.rows k hlt) with ⟨h1, h2⟩ | ⟨g, c4, h1, _⟩
              · omega
              · rw [HE.out] at h1; injection h1 with e1 e2 e3; exact ⟨g, e1⟩
            subst hao
            have rowE : ∀ W', wL.grownBy W' none → W'.ownsRow S 93 2 (.slice (some ⟨g, 0, none⟩) (N k) c) (N k) (vr (List.replicate (N k) (mk (nu k)))) := by
              intro W' hb
              have := HST.out.rows k hlt
              rw [HE.out] at this
              exact this.kept hb (.inr (by simp [Value.ownBlock]))
            clear hg2
            gi_wp2_with fail
            refine wpIn_region_any (by kernel_rfl) ?_
            refine anyIn_vals2 (w0 := wr) (valLT wo.heap.size gg cc g (N k) c q (nu k)) [37, 38, 39, 40, 41, 42, 43, 44, 45, 46, 47, 48, 49, 50, 51, 52, 53, 54, 55, 56, 57, 58, 59, 60, 61, 62, 63] depL8 (by kernel_rfl) rfl (by decide) ((Below.refl _ _).drew) ?step3 ?done3
            case step3 =>
              intro x W ii d hW hdi hdep
              have gW : wL.grownBy W none := HG2.out.trans (grown_of_below hW)
              have b0 := (World.cell?_of_block (w := wr) (a := ⟨wo.heap.size, 0, none⟩) (hW.block wo.heap.size hsq)).trans p0
              have b1 := (World.cell?_of_block (w := wr) (a := ⟨wo.heap.size, 1, none⟩) (hW.block wo.heap.size hsq)).trans p1
              have b2 := (World.cell?_of_block (w := wr) (a := ⟨wo.heap.size, 2, none⟩) (hW.block wo.heap.size hsq)).trans p2
              have rg1 : W.rangeAt gg (0 + q * 2) (rC2 (mk (nu k))).toList := rep_range (rowL W gW) hq2
              have rg2 : W.rangeAt g (0 + q * 2) (rC2 (mk (nu k))).toList := rep_range (rowE W gW) hq3
              clear hW gW
              match ii, hdi, hdep with
              | 0, hdi, _ =>
                obtain rfl := Option.some.inj hdi
                exact OI_value rfl rfl (about_none (by intro c h; cases h)) (by intro c h; cases h) (.pointer (some ⟨wo.heap.size, 1, none⟩)) W (by kernel_rfl) ⟨rfl, Below.refl _ _⟩
              | 1, hdi, hdep =>
                obtain rfl := Option.some.inj hdi
                rw [updV_self (hdep 0 (by simp [depL8]))]
                exact OI_value rfl rfl (about_none (by intro c h; cases h)) (by intro c h; cases h) (.slice (some ⟨gg, 0, none⟩) ((N k) + 40) cc) W (run_cellB 26 _ ⟨wo.heap.size, 1, none⟩ _ _ rfl (by kernel_rfl) Tryz.underlying26 rfl W b1) ⟨rfl, Below.refl _ _⟩
              | 2, hdi, _ =>
                obtain rfl := Option.some.inj hdi
                exact OI_value rfl rfl (about_none (by intro c h; cases h)) (by intro c h; cases h) (.int .i64 (q : Int)) W (by kernel_rfl) ⟨rfl, Below.refl _ _⟩
              | 3, hdi, hdep =>
                obtain rfl := Option.some.inj hdi
                rw [updV_self (hdep 1 (by simp [depL8])), updV_self (show updV x 1 _ 2 = _ from hdep 2 (by simp [depL8]))]
                exact OI_value rfl rfl (about_none (by intro c h; cases h)) (by intro c h; cases h) (.pointer (some ⟨gg, 0 + q * 2, none⟩)) W (run_atR 26 93 2 _ _ gg 0 (N k + 40) cc q rfl (by kernel_rfl) (by kernel_rfl) Tryz.underlying26 (by kernel_rfl) hq2 W) ⟨rfl, Below.refl _ _⟩
              | 4, hdi, hdep =>
                obtain rfl := Option.some.inj hdi
                rw [updV_self (hdep 3 (by simp [depL8]))]
                exact OI_value rfl rfl (about_none (by intro c h; cases h)) (by intro c h; cases h) (.agg (rC2 (mk (nu k)))) W (run_midR 93 _ gg (0 + q * 2) (rC2 (mk (nu k))) _ rfl (by kernel_rfl) Tryz.underlying93 rfl (by kernel_rfl) W rg1) ⟨rfl, Below.refl _ _⟩
              | 5, hdi, _ =>
                obtain rfl := Option.some.inj hdi
                exact OI_value rfl rfl (about_none (by intro c h; cases h)) (by intro c h; cases h) (.pointer (some ⟨wo.heap.size, 2, none⟩)) W (by kernel_rfl) ⟨rfl, Below.refl _ _⟩
              | 6, hdi, hdep =>
                obtain rfl := Option.some.inj hdi
                rw [updV_self (hdep 5 (by simp [depL8]))]
                exact OI_value rfl rfl (about_none (by intro c h; cases h)) (by intro c h; cases h) (.int .i64 (nu k : Int)) W (run_cellB 3 _ ⟨wo.heap.size, 2, none⟩ _ _ rfl (by kernel_rfl) Tryz.underlying3 rfl W b2) ⟨rfl, Below.refl _ _⟩
              | 7, hdi, hdep =>
                obtain rfl := Option.some.inj hdi
                rw [updV_self (hdep 4 (by simp [depL8])), updV_self (show updV x 4 _ 6 = _ from hdep 6 (by simp [depL8]))]
                refine OI_call rfl rfl (by intro c h; cases h) 112 #[.agg (rC2 (mk (nu k))), .int .i64 (nu k : Int)] (fun _ _ => trivial) (by kernel_rfl) (by decide) ?_
                refine (callsIn_wide.2 (is_r (nu k) W hkm)).mono ?_
                rintro e w' ⟨rfl, hb'⟩
                exact ⟨_, rfl, rfl, hb'⟩
              | 8, hdi, hdep =>
                obtain rfl := Option.some.inj hdi
                rw [updV_self (hdep 7 (by simp [depL8]))]
                exact OI_value rfl rfl (about_none (by intro c h; cases h)) (by intro c h; cases h) (.bool false) W (by kernel_rfl) ⟨rfl, Below.refl _ _⟩
              | 9, hdi, hdep =>
                obtain rfl := Option.some.inj hdi
                rw [updV_self (hdep 8 (by simp [depL8]))]
                exact OI_value rfl rfl (about_none (by intro c h; cases h)) (by intro c h; cases h) (.bool false) W (by kernel_rfl) ⟨rfl, Below.refl _ _⟩
              | 10, hdi, hdep =>
                obtain rfl := Option.some.inj hdi
                rw [updV_self (hdep 9 (by simp [depL8]))]
                with_reducible refine OI_value2 ?_ ?_ ?_ ?_ (.int .i64 (q : Int)) W ?_ ?_
                · decide
                · kernel_rfl
                · exact about_none (by intro c h; cases h)
                · intro c h; cases h
                · kernel_rfl
                · exact ⟨rfl, Below.refl _ _⟩
              | 11, hdi, hdep =>
                obtain rfl := Option.some.inj hdi
                rw [updV_self (hdep 9 (by simp [depL8]))]
                with_reducible refine OI_value2 ?_ ?_ ?_ ?_ (.pointer (some ⟨wo.heap.size, 0, none⟩)) W ?_ ?_
                · decide
                · kernel_rfl
                · exact about_none (by intro c h; cases h)
                · intro c h; cases h
                · kernel_rfl
                · exact ⟨rfl, Below.refl _ _⟩
              | 12, hdi, hdep =>
                obtain rfl := Option.some.inj hdi
                rw [updV_self (hdep 9 (by simp [depL8])), updV_self (show updV x 9 _ 11 = _ from hdep 11 (by simp [depL8]))]
                with_reducible refine OI_value2 ?_ ?_ ?_ ?_ (.slice (some ⟨g, 0, none⟩) (N k) c) W ?_ ?_
                · decide
                · kernel_rfl
                · exact about_none (by intro c h; cases h)
                · intro c h; cases h
                · exact run_cellB 26 _ ⟨wo.heap.size, 0, none⟩ _ _ rfl (by kernel_rfl) Tryz.underlying26 rfl W b0
                · exact ⟨rfl, Below.refl _ _⟩
              | 13, hdi, hdep =>
                obtain rfl := Option.some.inj hdi
                rw [updV_self (hdep 9 (by simp [depL8])), updV_self (show updV x 9 _ 12 = _ from hdep 12 (by simp [depL8]))]
                with_reducible refine OI_value2 ?_ ?_ ?_ ?_ (.int .i64 ((N k) : Int)) W ?_ ?_
                · decide
                · kernel_rfl
                · exact about_builtin _ _ _ rfl
                · intro c h; cases h
                · exact run_lenB _ 26 93 (some ⟨g, 0, none⟩) (N k) c rfl (by kernel_rfl) W Tryz.underlying26
                · exact ⟨rfl, Below.refl _ _⟩
              | 14, hdi, hdep =>
                obtain rfl := Option.some.inj hdi
                rw [updV_self (hdep 9 (by simp [depL8])), updV_self (show updV x 9 _ 10 = _ from hdep 10 (by simp [depL8])), updV_self (show updV (updV x 9 _) 10 _ 13 = _ from hdep 13 (by simp [depL8]))]
                with_reducible refine OI_value2 ?_ ?_ ?_ ?_ (.bool true) W ?_ ?_
                · decide
                · kernel_rfl
                · exact about_none (by intro c h; cases h)
                · intro c h; cases h
                · exact run_lssI8 3 3 _ _ q (N k) true (by simp; omega) rfl (by kernel_rfl) (by kernel_rfl) W
                · exact ⟨rfl, Below.refl _ _⟩
              | 15, hdi, hdep =>
                obtain rfl := Option.some.inj hdi
                rw [updV_self (hdep 9 (by simp [depL8])), updV_self (show updV x 9 _ 14 = _ from hdep 14 (by simp [depL8]))]
                with_reducible refine OI_value2 ?_ ?_ ?_ ?_ (.bool true) W ?_ ?_
                · decide
                · kernel_rfl
                · exact about_none (by intro c h; cases h)
                · intro c h; cases h
                · kernel_rfl
                · exact ⟨rfl, Below.refl _ _⟩
              | 16, hdi, hdep =>
                obtain rfl := Option.some.inj hdi
                rw [updV_self (hdep 15 (by simp [depL8]))]
                with_reducible refine OI_value2 ?_ ?_ ?_ ?_ (.pointer (some ⟨wo.heap.size, 0, none⟩)) W ?_ ?_
                · decide
                · kernel_rfl
                · exact about_none (by intro c h; cases h)
                · intro c h; cases h
                · kernel_rfl
                · exact ⟨rfl, Below.refl _ _⟩
              | 17, hdi, hdep =>
                obtain rfl := Option.some.inj hdi
                rw [updV_self (hdep 15 (by simp [depL8])), updV_self (show updV x 15 _ 16 = _ from hdep 16 (by simp [depL8]))]
                with_reducible refine OI_value2 ?_ ?_ ?_ ?_ (.slice (some ⟨g, 0, none⟩) (N k) c) W ?_ ?_
                · decide
                · kernel_rfl
                · exact about_none (by intro c h; cases h)
                · intro c h; cases h
                · exact run_cellB 26 _ ⟨wo.heap.size, 0, none⟩ _ _ rfl (by kernel_rfl) Tryz.underlying26 rfl W b0
                · exact ⟨rfl, Below.refl _ _⟩
              | 18, hdi, hdep =>
                obtain rfl := Option.some.inj hdi
                rw [updV_self (hdep 15 (by simp [depL8]))]
                with_reducible refine OI_value2 ?_ ?_ ?_ ?_ (.int .i64 (q : Int)) W ?_ ?_
                · decide
                · kernel_rfl
                · exact about_none (by intro c h; cases h)
                · intro c h; cases h
                · kernel_rfl
                · exact ⟨rfl, Below.refl _ _⟩
              | 19, hdi, hdep =>
                obtain rfl := Option.some.inj hdi
                rw [updV_self (hdep 15 (by simp [depL8])), updV_self (show updV x 15 _ 17 = _ from hdep 17 (by simp [depL8])), updV_self (show updV (updV x 15 _) 17 _ 18 = _ from hdep 18 (by simp [depL8]))]
                with_reducible refine OI_value2 ?_ ?_ ?_ ?_ (.pointer (some ⟨g, 0 + q * 2, none⟩)) W ?_ ?_
                · decide
                · kernel_rfl
                · exact about_none (by intro c h; cases h)
                · intro c h; cases h
                · exact run_atR 26 93 2 _ _ g 0 (N k) c q rfl (by kernel_rfl) (by kernel_rfl) Tryz.underlying26 (by kernel_rfl) hq3 W
                · exact ⟨rfl, Below.refl _ _⟩
              | 20, hdi, hdep =>
                obtain rfl := Option.some.inj hdi
                rw [updV_self (hdep 15 (by simp [depL8])), updV_self (show updV x 15 _ 19 = _ from hdep 19 (by simp [depL8]))]
                with_reducible refine OI_value2 ?_ ?_ ?_ ?_ (.agg (rC2 (mk (nu k)))) W ?_ ?_
                · decide
                · kernel_rfl
                · exact about_none (by intro c h; cases h)
                · intro c h; cases h
                · exact run_midR 93 _ g (0 + q * 2) (rC2 (mk (nu k))) _ rfl (by kernel_rfl) Tryz.underlying93 rfl (by kernel_rfl) W rg2
                · exact ⟨rfl, Below.refl _ _⟩
              | 21, hdi, hdep =>
                obtain rfl := Option.some.inj hdi
                rw [updV_self (hdep 15 (by simp [depL8]))]
                with_reducible refine OI_value2 ?_ ?_ ?_ ?_ (.pointer (some ⟨wo.heap.size, 2, none⟩)) W ?_ ?_
                · decide
                · kernel_rfl
                · exact about_none (by intro c h; cases h)
                · intro c h; cases h
                · kernel_rfl
                · exact ⟨rfl, Below.refl _ _⟩
              | 22, hdi, hdep =>
                obtain rfl := Option.some.inj hdi
                rw [updV_self (hdep 15 (by simp [depL8])), updV_self (show updV x 15 _ 21 = _ from hdep 21 (by simp [depL8]))]
                with_reducible refine OI_value2 ?_ ?_ ?_ ?_ (.int .i64 (nu k : Int)) W ?_ ?_
                · decide
                · kernel_rfl
                · exact about_none (by intro c h; cases h)
                · intro c h; cases h
                · exact run_cellB 3 _ ⟨wo.heap.size, 2, none⟩ _ _ rfl (by kernel_rfl) Tryz.underlying3 rfl W b2
                · exact ⟨rfl, Below.refl _ _⟩
              | 23, hdi, hdep =>
                obtain rfl := Option.some.inj hdi
                rw [updV_self (hdep 15 (by simp [depL8])), updV_self (show updV x 15 _ 20 = _ from hdep 20 (by simp [depL8])), updV_self (show updV (updV x 15 _) 20 _ 22 = _ from hdep 22 (by simp [depL8]))]
                with_reducible refine OI_call2 ?_ ?_ ?_ 112 #[.agg (rC2 (mk (nu k))), .int .i64 (nu k : Int)] ?_ ?_ ?_ ?_
                · decide
                · kernel_rfl
                · intro c h; cases h
                · exact fun _ _ => trivial
                · kernel_rfl
                · decide
                · refine (callsIn_wide.2 (is_r (nu k) W hkm)).mono ?_
                  rintro e w' ⟨rfl, hb'⟩
                  exact ⟨_, rfl, rfl, hb'⟩
              | 24, hdi, hdep =>
                obtain rfl := Option.some.inj hdi
                rw [updV_self (hdep 15 (by simp [depL8])), updV_self (show updV x 15 _ 23 = _ from hdep 23 (by simp [depL8]))]
                with_reducible refine OI_value2 ?_ ?_ ?_ ?_ (.bool false) W ?_ ?_
                · decide
                · kernel_rfl
                · exact about_none (by intro c h; cases h)
                · intro c h; cases h
                · kernel_rfl
                · exact ⟨rfl, Below.refl _ _⟩
              | 25, hdi, hdep =>
                obtain rfl := Option.some.inj hdi
                rw [updV_self (hdep 9 (by simp [depL8])), updV_self (show updV x 9 _ 15 = _ from hdep 15 (by simp [depL8])), updV_self (show updV (updV x 9 _) 15 _ 24 = _ from hdep 24 (by simp [depL8]))]
                with_reducible refine OI_value2 ?_ ?_ ?_ ?_ (.bool false) W ?_ ?_
                · decide
                · kernel_rfl
                · exact about_none (by intro c h; cases h)
                · intro c h; cases h
                · kernel_rfl
                · exact ⟨rfl, Below.refl _ _⟩
              | 26, hdi, hdep =>
                obtain rfl := Option.some.inj hdi
                rw [updV_self (hdep 9 (by simp [depL8])), updV_self (show updV x 9 _ 25 = _ from hdep 25 (by simp [depL8]))]
                exact OI_value rfl rfl (about_none (by intro c h; cases h)) (by intro c h; cases h) (.bool false) W (by kernel_rfl) ⟨rfl, Below.refl _ _⟩
              | _ + 27, hdi, _ => simp at hdi
            case done3 =>
              intro W hW
              have HGW := veil (HG2.out.trans (grown_of_below hW))
              have b0 := (World.cell?_of_block (w := wr) (a := ⟨wo.heap.size, 0, none⟩) (hW.block wo.heap.size hsq)).trans p0
              have b1 := (World.cell?_of_block (w := wr) (a := ⟨wo.heap.size, 1, none⟩) (hW.block wo.heap.size hsq)).trans p1
              have b2 := (World.cell?_of_block (w := wr) (a := ⟨wo.heap.size, 2, none⟩) (hW.block wo.heap.size hsq)).trans p2
              have hsW := hW.size
              have hsz2 : wo.heap.size < W.heap.size := by omega
              clear hW hsW
              simp only [putsV, valLT, Act.put, List.setIfInBounds_toArray, List.set_cons_succ, List.set_cons_zero, Nat.reduceAdd]
              gi_wp2_with fail
              go_roundw
              case rel => exact ⟨q + 1, by omega, by go_num, HGW.out, b0, b1, b2, hsz2⟩
              case measure => simp [intOf]; omega
          · clear hg2
            gi_wp2_with fail
            refine wpIn_region_any (by kernel_rfl) ?_
            refine anyIn_vals2 (w0 := wr) (valLU wo.heap.size gg cc (N k) c q (nu k) ao) [37, 38, 39, 40, 41, 42, 43, 44, 45, 46, 47, 48, 49, 50, 51, 52, 53, 54, 55, 56, 57, 58, 59, 60, 61, 62, 63] depL8 (by kernel_rfl) rfl (by decide) ((Below.refl _ _).drew) ?step3 ?done3
            case step3 =>
              intro x W ii d hW hdi hdep
              have gW : wL.grownBy W none := HG2.out.trans (grown_of_below hW)
              have b0 := (World.cell?_of_block (w := wr) (a := ⟨wo.heap.size, 0, none⟩) (hW.block wo.heap.size hsq)).trans p0
              have b1 := (World.cell?_of_block (w := wr) (a := ⟨wo.heap.size, 1, none⟩) (hW.block wo.heap.size hsq)).trans p1
              have b2 := (World.cell?_of_block (w := wr) (a := ⟨wo.heap.size, 2, none⟩) (hW.block wo.heap.size hsq)).trans p2
              have rg1 : W.rangeAt gg (0 + q * 2) (rC2 (mk (nu k))).toList := rep_range (rowL W gW) hq2
              clear hW gW
              match ii, hdi, hdep with
              | 0, hdi, _ =>
                obtain rfl := Option.some.inj hdi
                exact OI_value rfl rfl (about_none (by intro c h; cases h)) (by intro c h; cases h) (.pointer (some ⟨wo.heap.size, 1, none⟩)) W (by kernel_rfl) ⟨rfl, Below.refl _ _⟩
              | 1, hdi, hdep =>
                obtain rfl := Option.some.inj hdi
                rw [updV_self (hdep 0 (by simp [depL8]))]
                exact OI_value rfl rfl (about_none (by intro c h; cases h)) (by intro c h; cases h) (.slice (some ⟨gg, 0, none⟩) ((N k) + 40) cc) W (run_cellB 26 _ ⟨wo.heap.size, 1, none⟩ _ _ rfl (by kernel_rfl) Tryz.underlying26 rfl W b1) ⟨rfl, Below.refl _ _⟩
              | 2, hdi, _ =>
                obtain rfl := Option.some.inj hdi
                exact OI_value rfl rfl (about_none (by intro c h; cases h)) (by intro c h; cases h) (.int .i64 (q : Int)) W (by kernel_rfl) ⟨rfl, Below.refl _ _⟩
              | 3, hdi, hdep =>
                obtain rfl := Option.some.inj hdi
                rw [updV_self (hdep 1 (by simp [depL8])), updV_self (show updV x 1 _ 2 = _ from hdep 2 (by simp [depL8]))]
                exact OI_value rfl rfl (about_none (by intro c h; cases h)) (by intro c h; cases h) (.pointer (some ⟨gg, 0 + q * 2, none⟩)) W (run_atR 26 93 2 _ _ gg 0 (N k + 40) cc q rfl (by kernel_rfl) (by kernel_rfl) Tryz.underlying26 (by kernel_rfl) hq2 W) ⟨rfl, Below.refl _ _⟩
              | 4, hdi, hdep =>
                obtain rfl := Option.some.inj hdi
                rw [updV_self (hdep 3 (by simp [depL8]))]
                exact OI_value rfl rfl (about_none (by intro c h; cases h)) (by intro c h; cases h) (.agg (rC2 (mk (nu k)))) W (run_midR 93 _ gg (0 + q * 2) (rC2 (mk (nu k))) _ rfl (by kernel_rfl) Tryz.underlying93 rfl (by kernel_rfl) W rg1) ⟨rfl, Below.refl _ _⟩
              | 5, hdi, _ =>
                obtain rfl := Option.some.inj hdi
                exact OI_value rfl rfl (about_none (by intro c h; cases h)) (by intro c h; cases h) (.pointer (some ⟨wo.heap.size, 2, none⟩)) W (by kernel_rfl) ⟨rfl, Below.refl _ _⟩
              | 6, hdi, hdep =>
                obtain rfl := Option.some.inj hdi
                rw [updV_self (hdep 5 (by simp [depL8]))]
                exact OI_value rfl rfl (about_none (by intro c h; cases h)) (by intro c h; cases h) (.int .i64 (nu k : Int)) W (run_cellB 3 _ ⟨wo.heap.size, 2, none⟩ _ _ rfl (by kernel_rfl) Tryz.underlying3 rfl W b2) ⟨rfl, Below.refl _ _⟩
              | 7, hdi, hdep =>
                obtain rfl := Option.some.inj hdi
                rw [updV_self (hdep 4 (by simp [depL8])), updV_self (show updV x 4 _ 6 = _ from hdep 6 (by simp [depL8]))]
                refine OI_call rfl rfl (by intro c h; cases h) 112 #[.agg (rC2 (mk (nu k))), .int .i64 (nu k : Int)] (fun _ _ => trivial) (by kernel_rfl) (by decide) ?_
                refine (callsIn_wide.2 (is_r (nu k) W hkm)).mono ?_
                rintro e w' ⟨rfl, hb'⟩
                exact ⟨_, rfl, rfl, hb'⟩
              | 8, hdi, hdep =>
                obtain rfl := Option.some.inj hdi
                rw [updV_self (hdep 7 (by simp [depL8]))]
                exact OI_value rfl rfl (about_none (by intro c h; cases h)) (by intro c h; cases h) (.bool false) W (by kernel_rfl) ⟨rfl, Below.refl _ _⟩
              | 9, hdi, hdep =>
                obtain rfl := Option.some.inj hdi
                rw [updV_self (hdep 8 (by simp [depL8]))]
                exact OI_value rfl rfl (about_none (by intro c h; cases h)) (by intro c h; cases h) (.bool false) W (by kernel_rfl) ⟨rfl, Below.refl _ _⟩
              | 10, hdi, hdep =>
                obtain rfl := Option.some.inj hdi
                rw [updV_self (hdep 9 (by simp [depL8]))]
                with_reducible refine OI_value2 ?_ ?_ ?_ ?_ (.int .i64 (q : Int)) W ?_ ?_
                · decide
                · kernel_rfl
                · exact about_none (by intro c h; cases h)
                · intro c h; cases h
                · kernel_rfl
                · exact ⟨rfl, Below.refl _ _⟩
              | 11, hdi, hdep =>
                obtain rfl := Option.some.inj hdi
                rw [updV_self (hdep 9 (by simp [depL8]))]
                with_reducible refine OI_value2 ?_ ?_ ?_ ?_ (.pointer (some ⟨wo.heap.size, 0, none⟩)) W ?_ ?_
                · decide
                · kernel_rfl
                · exact about_none (by intro c h; cases h)
                · intro c h; cases h
                · kernel_rfl
                · exact ⟨rfl, Below.refl _ _⟩
              | 12, hdi, hdep =>
                obtain rfl := Option.some.inj hdi
                rw [updV_self (hdep 9 (by simp [depL8])), updV_self (show updV x 9 _ 11 = _ from hdep 11 (by simp [depL8]))]
                with_reducible refine OI_value2 ?_ ?_ ?_ ?_ (.slice ao (N k) c) W ?_ ?_
                · decide
                · kernel_rfl
                · exact about_none (by intro c h; cases h)
                · intro c h; cases h
                · exact run_cellB 26 _ ⟨wo.heap.size, 0, none⟩ _ _ rfl (by kernel_rfl) Tryz.underlying26 rfl W b0
                · exact ⟨rfl, Below.refl _ _⟩
              | 13, hdi, hdep =>
                obtain rfl := Option.some.inj hdi
                rw [updV_self (hdep 9 (by simp [depL8])), updV_self (show updV x 9 _ 12 = _ from hdep 12 (by simp [depL8]))]
                with_reducible refine OI_value2 ?_ ?_ ?_ ?_ (.int .i64 ((N k) : Int)) W ?_ ?_
                · decide
                · kernel_rfl
                · exact about_builtin _ _ _ rfl
                · intro c h; cases h
                · exact run_lenB _ 26 93 ao (N k) c rfl (by kernel_rfl) W Tryz.underlying26
                · exact ⟨rfl, Below.refl _ _⟩
              | 14, hdi, hdep =>
                obtain rfl := Option.some.inj hdi
                rw [updV_self (hdep 9 (by simp [depL8])), updV_self (show updV x 9 _ 10 = _ from hdep 10 (by simp [depL8])), updV_self (show updV (updV x 9 _) 10 _ 13 = _ from hdep 13 (by simp [depL8]))]
                with_reducible refine OI_value2 ?_ ?_ ?_ ?_ (.bool false) W ?_ ?_
                · decide
                · kernel_rfl
                · exact about_none (by intro c h; cases h)
                · intro c h; cases h
                · exact run_lssI8 3 3 _ _ q (N k) false (by simp; omega) rfl (by kernel_rfl) (by kernel_rfl) W
                · exact ⟨rfl, Below.refl _ _⟩
              | 15, hdi, hdep =>
                obtain rfl := Option.some.inj hdi
                rw [updV_self (hdep 9 (by simp [depL8])), updV_self (show updV x 9 _ 14 = _ from hdep 14 (by simp [depL8]))]
                with_reducible refine OI_value2 ?_ ?_ ?_ ?_ (.bool false) W ?_ ?_
                · decide
                · kernel_rfl
                · exact about_none (by intro c h; cases h)
                · intro c h; cases h
                · kernel_rfl
                · exact ⟨rfl, Below.refl _ _⟩
              | 16, hdi, hdep =>
                obtain rfl := Option.some.inj hdi
                rw [updV_self (hdep 15 (by simp [depL8]))]
                with_reducible refine OI_off2 ?_ ?_ ?_ ?_
                · decide
                · kernel_rfl
                · exact fun _ _ => trivial
                · exact ⟨rfl, Below.refl _ _⟩
              | 17, hdi, hdep =>
                obtain rfl := Option.some.inj hdi
                rw [updV_self (hdep 15 (by simp [depL8])), updV_self (show updV x 15 _ 16 = _ from hdep 16 (by simp [depL8]))]
                with_reducible refine OI_off2 ?_ ?_ ?_ ?_
                · decide
                · kernel_rfl
                · exact fun _ _ => trivial
                · exact ⟨rfl, Below.refl _ _⟩
              | 18, hdi, hdep =>
                obtain rfl := Option.some.inj hdi
                rw [updV_self (hdep 15 (by simp [depL8]))]
                with_reducible refine OI_off2 ?_ ?_ ?_ ?_
                · decide
                · kernel_rfl
                · exact fun _ _ => trivial
                · exact ⟨rfl, Below.refl _ _⟩
              | 19, hdi, hdep =>
                obtain rfl := Option.some.inj hdi
                rw [updV_self (hdep 15 (by simp [depL8])), updV_self (show updV x 15 _ 17 = _ from hdep 17 (by simp [depL8])), updV_self (show updV (updV x 15 _) 17 _ 18 = _ from hdep 18 (by simp [depL8]))]
                with_reducible refine OI_off2 ?_ ?_ ?_ ?_
                · decide
                · kernel_rfl
                · exact fun _ _ => trivial
                · exact ⟨rfl, Below.refl _ _⟩
              | 20, hdi, hdep =>
                obtain rfl := Option.some.inj hdi
                rw [updV_self (hdep 15 (by simp [depL8])), updV_self (show updV x 15 _ 19 = _ from hdep 19 (by simp [depL8]))]
                with_reducible refine OI_off2 ?_ ?_ ?_ ?_
                · decide
                · kernel_rfl
                · exact fun _ _ => trivial
                · exact ⟨rfl, Below.refl _ _⟩
              | 21, hdi, hdep =>
                obtain rfl := Option.some.inj hdi
                rw [updV_self (hdep 15 (by simp [depL8]))]
                with_reducible refine OI_off2 ?_ ?_ ?_ ?_
                · decide
                · kernel_rfl
                · exact fun _ _ => trivial
                · exact ⟨rfl, Below.refl _ _⟩
              | 22, hdi, hdep =>
                obtain rfl := Option.some.inj hdi
                rw [updV_self (hdep 15 (by simp [depL8])), updV_self (show updV x 15 _ 21 = _ from hdep 21 (by simp [depL8]))]
                with_reducible refine OI_off2 ?_ ?_ ?_ ?_
                · decide
                · kernel_rfl
                · exact fun _ _ => trivial
                · exact ⟨rfl, Below.refl _ _⟩
              | 23, hdi, hdep =>
                obtain rfl := Option.some.inj hdi
                rw [updV_self (hdep 15 (by simp [depL8])), updV_self (show updV x 15 _ 20 = _ from hdep 20 (by simp [depL8])), updV_self (show updV (updV x 15 _) 20 _ 22 = _ from hdep 22 (by simp [depL8]))]
                with_reducible refine OI_off2 ?_ ?_ ?_ ?_
                · decide
                · kernel_rfl
                · exact fun _ _ => trivial
                · exact ⟨rfl, Below.refl _ _⟩
              | 24, hdi, hdep =>
                obtain rfl := Option.some.inj hdi
                rw [updV_self (hdep 15 (by simp [depL8])), updV_self (show updV x 15 _ 23 = _ from hdep 23 (by simp [depL8]))]
                with_reducible refine OI_off2 ?_ ?_ ?_ ?_
                · decide
                · kernel_rfl
                · exact fun _ _ => trivial
                · exact ⟨rfl, Below.refl _ _⟩
              | 25, hdi, hdep =>
                obtain rfl := Option.some.inj hdi
                rw [updV_self (hdep 9 (by simp [depL8])), updV_self (show updV x 9 _ 15 = _ from hdep 15 (by simp [depL8])), updV_self (show updV (updV x 9 _) 15 _ 24 = _ from hdep 24 (by simp [depL8]))]
                with_reducible refine OI_value2 ?_ ?_ ?_ ?_ (.bool false) W ?_ ?_
                · decide
                · kernel_rfl
                · exact about_none (by intro c h; cases h)
                · intro c h; cases h
                · kernel_rfl
                · exact ⟨rfl, Below.refl _ _⟩
              | 26, hdi, hdep =>
                obtain rfl := Option.some.inj hdi
                rw [updV_self (hdep 9 (by simp [depL8])), updV_self (show updV x 9 _ 25 = _ from hdep 25 (by simp [depL8]))]
                exact OI_value rfl rfl (about_none (by intro c h; cases h)) (by intro c h; cases h) (.bool false) W (by kernel_rfl) ⟨rfl, Below.refl _ _⟩
              | _ + 27, hdi, _ => simp at hdi
            case done3 =>
              intro W hW
              have HGW := veil (HG2.out.trans (grown_of_below hW))
              have b0 := (World.cell?_of_block (w := wr) (a := ⟨wo.heap.size, 0, none⟩) (hW.block wo.heap.size hsq)).trans p0
              have b1 := (World.cell?_of_block (w := wr) (a := ⟨wo.heap.size, 1, none⟩) (hW.block wo.heap.size hsq)).trans p1
              have b2 := (World.cell?_of_block (w := wr) (a := ⟨wo.heap.size, 2, none⟩) (hW.block wo.heap.size hsq)).trans p2
              have hsW := hW.size
              have hsz2 : wo.heap.size < W.heap.size := by omega
              clear hW hsW
              simp only [putsV, valLU, Act.put, List.setIfInBounds_toArray, List.set_cons_succ, List.set_cons_zero, Nat.reduceAdd]
              gi_wp2_with fail
              go_roundw
              case rel => exact ⟨q + 1, by omega, by go_num, HGW.out, b0, b1, b2, hsz2⟩
              case measure => simp [intOf]; omega
        · clear hg2
          gi_wp2_with fail
          go_roundw
          case rel => exact ⟨k + 1, by omega, by go_num, HG2.out⟩
          case measure => simp [intOf]; omega
    · have HG := veil hg
      clear hg
      gi_wp2_with fail
      go_ret
      exact ⟨rfl, HG.out⟩
end Go.Proofs.YtehadfidenejdaaGreatDoor.Bq
