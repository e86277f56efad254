/-
  Out of HkExpand, HkInfo, HkLabel, ShaRefPlain, ShaEq, ChaPlain, ChaXorP, ChaVec, KyVec, KyLab, HkMacF, ShaSumLim, KySum, ShaRefPad, ShaRef, ShaRefBlock, ShaUndPlain, ShaRefSum.
-/
import Derived.Test.YtjccjlhnjihfjaaDoorGh3
import Derived.Lib.ConvBytes
import Derived.Test.YtjccjlhnjihfjaaDoorGh1
import Derived.ChangeKeysEq
import Derived.Laws.StructEq
import Derived.Test.YtjccjlhnjihfjaaDoorGh2
import Derived.Test.YtjccjlhnjihfjaaDoorRows
import Derived.WalkKit
import Derived.WalkSpells
import Derived.WalkLawsBesides
import Derived.Deep.QuietTactic
import Derived.BigQuiet
import Derived.BigRegion
import Derived.Deep.RegionHeld3

/-! What hkdf.Expand answers. -/
namespace Go.Proofs.YtjccjlhnjihfjaaDoor
open Go Go.RowKit Go.Shelf
attribute [local go_sem] Oper.semAt_some


theorem told_any (N : Int) (w : World) :
    Calls Tryd.prog 101 #[.int .i64 N] w fun e w' => e = .returned (.bool (decide (0 ≤ N ∧ N ≤ 8160))) ∧ w' = w := by
  go_enter Tryd.func101, Tryd.ntmps101
  by_cases h1 : 0 ≤ N
  · by_cases h2 : N ≤ 8160
    · go_wp2_with fail
      go_ret
      exact ⟨by rw [decide_eq_true (by omega)]; rfl, rfl⟩
    · go_wp2_with fail
      go_ret
      exact ⟨by rw [decide_eq_false (by omega)]; rfl, rfl⟩
  · go_wp2_with fail
    go_ret
    exact ⟨by rw [decide_eq_false (by omega)]; rfl, rfl⟩

set_option maxRecDepth 100000 in
set_option maxHeartbeats 1000000 in
theorem expand_ok (k q : SL) (N : Nat) (w : World) (hk : k.Ok w) (hq : q.Ok w) (hN : N ≤ 8160) (hkl : k.len ≤ 1048576) (hql : q.len ≤ 1048479) :
    Calls Tryd.prog 102 #[.slice k.a k.len k.cap, .slice q.a q.len q.cap, .int .i64 (N : Int)] w fun e w' => ∃ g, e = .returned (.tuple #[.slice (some ⟨g, 0, none⟩) N N, .int .i64 0]) ∧ w'.ownsRow w.heap.size 5 1 (.slice (some ⟨g, 0, none⟩) N N) N (vb (expandL (keyL k.b) q.b N)) ∧ Below w.heap.size w w' := by
  obtain ⟨i0, hi, hz0, hz1, hz2⟩ := info_parts (P := Tryd.prog) (e := 5) (z := .int .u8 0) (size := 1) (bytes := 1) (by kernel_rfl)
  have HK := veil hk
  have HQ := veil hq
  clear hk hq
  have hN2 : (0 : Int) ≤ (N : Int) ∧ (N : Int) ≤ 8160 := by omega
  have hk1 : decide ((1048576 : Int) < (k.len : Int)) = false := by rw [decide_eq_false_iff_not]; omega
  have hq1 : decide ((1048479 : Int) < (q.len : Int)) = false := by rw [decide_eq_false_iff_not]; omega
  refine (callsIn_wide (n := 4)).1 ?_
  refine callsIn_of_wp_marks Tryd.func102 rfl trivial ?_ rfl
  simp only [Tryd.ntmps102, List.size_toArray, List.length_cons, List.length_nil, Nat.reduceAdd, Nat.reduceSub, Array.replicate_succ, Array.replicate_zero, List.push_toArray, List.append_toArray, List.nil_append, List.cons_append]
  gi_wp2_with fail
  refine ⟨trivial, (callsIn_wide.2 (told_any N _)).mono ?_⟩
  rintro e1 w1 ⟨rfl, hw⟩
  rw [hw, decide_eq_true hN2]
  clear hw w1
  have b0 : Below w.heap.size w (w.alloc (.cells #[.int .i64 (N : Int)] 3)) := (Below.refl _ w).alloc (Nat.le_refl _) _
  have r0 : Row (w.alloc (.cells #[.int .i64 (N : Int)] 3)) w.heap.size 3 #[.int .i64 (N : Int)] := Row.new _ _ _
  have cN : (w.alloc (.cells #[.int .i64 (N : Int)] 3)).cell? ⟨w.heap.size, 0, none⟩ = some (.int .i64 (N : Int)) := r0.cell 0
  have hsz0 : (w.alloc (.cells #[.int .i64 (N : Int)] 3)).heap.size = w.heap.size + 1 := by simp
  generalize w.alloc (.cells #[.int .i64 (N : Int)] 3) = W0 at *
  gi_wp2_with (gi_at_make; refine wpListIn_make_own _ rfl _ _ 28 rfl (w.heap.size + 1) 5 i0 (.int .u8 0) 1 Tryd.underlying28 hi hz0 hz1 .i64 .i64 (N : Int) N rfl rfl rfl (by rw [hz2]; omega) (by unfold maxLen; omega) (by omega) ?_; intro w1 hown1 hgrow1)
  have hW0sz : w.heap.size + 1 ≤ w1.heap.size := by have := hgrow1.size; omega
  have hb1 : Below w.heap.size w w1 := b0.grown hgrow1 (by omega) (fun j e => by cases e)
  have r01 : Row w1 w.heap.size 3 #[.int .i64 (N : Int)] := (hgrow1.block w.heap.size (by omega) (fun e => by cases e)).trans r0
  rw [hsz0] at hown1
  have hgt1 : w.heap.size + 1 < w1.heap.size := (hown1.lt (w.heap.size + 1) rfl).2
  have bel2 : Below w.heap.size w (w1.alloc (.cells #[.slice (some ⟨w.heap.size + 1, 0, none⟩) 0 N] 28)) := hb1.alloc hb1.size _
  have r02 := r01.alloc (.cells #[.slice (some ⟨w.heap.size + 1, 0, none⟩) 0 N] 28)
  have rT2 : Row (w1.alloc (.cells #[.slice (some ⟨w.heap.size + 1, 0, none⟩) 0 N] 28)) w1.heap.size 28 #[.slice (some ⟨w.heap.size + 1, 0, none⟩) 0 N] := Row.new _ _ _
  have own2 := hown1.alloc (.cells #[.slice (some ⟨w.heap.size + 1, 0, none⟩) 0 N] 28)
  have hsz2 : (w1.alloc (.cells #[.slice (some ⟨w.heap.size + 1, 0, none⟩) 0 N] 28)).heap.size = w1.heap.size + 1 := by simp
  generalize w1.alloc (.cells #[.slice (some ⟨w.heap.size + 1, 0, none⟩) 0 N] 28) = W2 at *
  clear hown1 hgrow1 r01 hb1 b0 r0 cN hsz0
  refine wpIn_mono (Q := fun e a' W => e = .normal ∧ ∃ A, W2.heap.size ≤ A ∧ a' = ({ tmps := #[.slice k.a k.len k.cap, .slice q.a q.len q.cap, .int .i64 (N : Int), undef, undef, .pointer (some ⟨w.heap.size, 0, none⟩), .slice none 0 0, .int .i64 0, .pointer (some ⟨w1.heap.size, 0, none⟩), undef, .int .i64 (N : Int), .bool true, .bool false, .slice k.a k.len k.cap, .int .i64 (k.len : Int), .bool false, .bool false, .slice q.a q.len q.cap, .int .i64 (q.len : Int), .bool false, .bool false, .int .i64 (N : Int), .slice (some ⟨w.heap.size + 1, 0, none⟩) 0 N, .slice k.a k.len k.cap, .agg (bs (keyL k.b)), .slice q.a q.len q.cap, .int .i64 (N : Int), (.func (.func 116) #[] #[.pointer (some ⟨A + 1 + 1, 0, none⟩), .pointer (some ⟨A, 0, none⟩), .pointer (some ⟨A + 1, 0, none⟩)]), undef, undef, undef, undef, undef, undef, undef, undef, undef, undef], defers := [] } : Act) ∧
      Row W A 163 (bs (keyL k.b)) ∧ W.cell? ⟨A + 1, 0, none⟩ = some (.slice q.a q.len q.cap) ∧ W.cell? ⟨A + 1 + 1, 0, none⟩ = some (.int .i64 (N : Int)) ∧ A + 2 < W.heap.size ∧ Below W2.heap.size W2 W) ?_ ?_
  · refine wpIn_region_any (by kernel_rfl) ?_
    have c2 : ∀ W, Below W2.heap.size W2 W → W.cell? ⟨w.heap.size, 0, none⟩ = some (.int .i64 (N : Int)) := fun W hb => (r02.below hb r02.lt).cell 0
    refine wpAnyIn_take (v := .slice k.a k.len k.cap) rfl (i := 0) rfl (by kernel_rfl) (by kernel_rfl) (by kernel_rfl) (fun _ _ _ h => nomatch h.1) ⟨.inl ⟨rfl, fun W => by go_simp⟩, fun W => rfl⟩ ?_
    refine wpAnyIn_take (v := .slice q.a q.len q.cap) rfl (i := 2) rfl (by kernel_rfl) (by kernel_rfl) (by kernel_rfl) (fun _ _ _ h => nomatch h.1) ⟨.inl ⟨rfl, fun W => by go_simp⟩, fun W => rfl⟩ ?_
    have hbd : Below W2.heap.size W2 { W2 with drawn := W2.drawn + 1 } := (Below.refl _ W2).drew
    generalize ({ W2 with drawn := W2.drawn + 1 } : World) = Wd at *
    refine I_all (rs := [1, 3]) (by kernel_rfl) (by simp) (fun j hj => ?_)
    rcases (by simpa using hj : j = 1 ∨ j = 3) with rfl | rfl
    · refine OI_call rfl rfl (by intro c h; cases h) 105 #[.slice k.a k.len k.cap] (fun _ _ => trivial) (by go_simp) (by decide) ?_
      refine (callsIn_wide.2 (key_any k Wd ((HK.out.below bel2).below hbd) hkl)).mono ?_
      rintro e3 W3 ⟨rfl, hb⟩
      have hb3 := hbd.trans (hb.mono hbd.size)
      have hc3 := c2 W3 hb3
      refine ⟨_, rfl, ?_⟩
      refine I_one 3 (by kernel_rfl) (OI_value rfl rfl rfl (by intro c h; cases h) (.int .i64 (N : Int)) W3 (by go_simp) ?_)
      refine I_one 4 (by kernel_rfl) (OI_call rfl rfl (by intro c h; cases h) 109 #[.agg (bs (keyL k.b)), .slice q.a q.len q.cap, .int .i64 (N : Int)] (fun _ _ => trivial) (by go_simp) (by decide) ?_)
      refine (hkParts_in 3 (keyL k.b) q.a q.len q.cap (N : Int) W3).mono ?_
      rintro e4 W4 ⟨rfl, hw4⟩
      refine ⟨_, rfl, I_done (by kernel_rfl) ⟨rfl, W3.heap.size, hb3.size, rfl, ?_⟩ _⟩
      rw [hw4]
      refine ⟨((Row.new _ _ _).alloc _).alloc _, ?_, ?_, by simp, ((hb3.alloc hb3.size _).alloc (by have := hb3.size; simp; omega) _).alloc (by have := hb3.size; simp; omega) _⟩
      · exact (((Row.new1 W3 _ 28 #[.slice q.a q.len q.cap]).alloc _).cell 0)
      · exact ((Row.new2 W3 _ _ 3 #[.int .i64 (N : Int)]).cell 0)
    · have hcd := c2 Wd hbd
      refine OI_value rfl rfl rfl (by intro c h; cases h) (.int .i64 (N : Int)) Wd (by go_simp) ?_
      refine I_one 1 (by kernel_rfl) (OI_call rfl rfl (by intro c h; cases h) 105 #[.slice k.a k.len k.cap] (fun _ _ => trivial) (by go_simp) (by decide) ?_)
      refine (callsIn_wide.2 (key_any k Wd ((HK.out.below bel2).below hbd) hkl)).mono ?_
      rintro e3 W3 ⟨rfl, hb⟩
      have hb3 := hbd.trans (hb.mono hbd.size)
      refine ⟨_, rfl, ?_⟩
      refine I_one 4 (by kernel_rfl) (OI_call rfl rfl (by intro c h; cases h) 109 #[.agg (bs (keyL k.b)), .slice q.a q.len q.cap, .int .i64 (N : Int)] (fun _ _ => trivial) (by go_simp) (by decide) ?_)
      refine (hkParts_in 3 (keyL k.b) q.a q.len q.cap (N : Int) W3).mono ?_
      rintro e4 W4 ⟨rfl, hw4⟩
      refine ⟨_, rfl, I_done (by kernel_rfl) ⟨rfl, W3.heap.size, hb3.size, rfl, ?_⟩ _⟩
      rw [hw4]
      refine ⟨((Row.new _ _ _).alloc _).alloc _, ?_, ?_, by simp, ((hb3.alloc hb3.size _).alloc (by have := hb3.size; simp; omega) _).alloc (by have := hb3.size; simp; omega) _⟩
      · exact (((Row.new1 W3 _ 28 #[.slice q.a q.len q.cap]).alloc _).cell 0)
      · exact ((Row.new2 W3 _ _ 3 #[.int .i64 (N : Int)]).cell 0)
  · rintro e a' W ⟨rfl, A, hA, rfl, rA, cI, cN, hA2, hbW⟩
    have hbelW := bel2.trans (hbW.mono bel2.size)
    have r0W := r02.below hbW r02.lt
    have rTW := rT2.below hbW rT2.lt
    have ownW : W.ownsRow (w.heap.size + 1) 5 1 (.slice (some ⟨w.heap.size + 1, 0, none⟩) 0 N) 0 [] := own2.kept (row := none) ⟨hbW.os, hbW.tape, hbW.output, hbW.size, fun j hj _ => hbW.block j hj⟩ (Classical.em _)
    have hqW := HQ.out.below hbelW
    have hsW := hbW.size
    clear bel2 r02 rT2 own2
    dsimp only
    gi_wp2_with fail
    have hIBelow : ∀ (s : List Prt) (C D : World), (Row C w1.heap.size 28 #[.slice (some ⟨w.heap.size + 1, 0, none⟩) (toldL N s).length N] ∧ OwnB C (w.heap.size + 1) (w.heap.size + 1) (toldL N s).length N (toldL N s) ∧ Row C w.heap.size 3 #[.int .i64 (N : Int)] ∧ Below w.heap.size w C) → Below W.heap.size C D → (Row D w1.heap.size 28 #[.slice (some ⟨w.heap.size + 1, 0, none⟩) (toldL N s).length N] ∧ OwnB D (w.heap.size + 1) (w.heap.size + 1) (toldL N s).length N (toldL N s) ∧ Row D w.heap.size 3 #[.int .i64 (N : Int)] ∧ Below w.heap.size w D) :=
      fun s C D h hb => ⟨h.1.below hb (by omega), h.2.1.same (hb.block _ (by omega)), h.2.2.1.below hb (by omega), h.2.2.2.trans (hb.mono (by omega))⟩
    have hqg : 0 < q.len → q.g < w.heap.size := HQ.out.lt
    refine rangeFunc_tellsP (F := Fence.wide) (n := 4) rfl (by decide) (gf := 116) (lb := #[.pointer (some ⟨A + 1 + 1, 0, none⟩), .pointer (some ⟨A, 0, none⟩), .pointer (some ⟨A + 1, 0, none⟩)]) rfl trivial (enters_of Tryd.func116 (by kernel_rfl) rfl) (encs := encP) (fun _ => rfl) (fun j => j = w1.heap.size ∨ j = w.heap.size + 1) (fun j hj => by omega) (partTo (keyL k.b) q.b (nparts N))
      (hkParts_tells (4 - 1) (by decide) A (A + 1) (A + 1 + 1) (fun j => j = w1.heap.size ∨ j = w.heap.size + 1) (keyL k.b) (keyL_length _) q N hN hql W rA cI cN (by omega) (by omega) hqW (fun j hj => by omega) (by omega) (by omega) (fun p => by have := hqg p; omega))
      (fun pre W => Row W w1.heap.size 28 #[.slice (some ⟨w.heap.size + 1, 0, none⟩) (toldL N pre).length N] ∧ OwnB W (w.heap.size + 1) (w.heap.size + 1) (toldL N pre).length N (toldL N pre) ∧ Row W w.heap.size 3 #[.int .i64 (N : Int)] ∧ Below w.heap.size w W)
      hIBelow (by rw [show toldL N [] = [] by simp [toldL, joined]]; exact ⟨rTW, ⟨rfl, ownW⟩, r0W, hbelW⟩)
      (fun x bk => { tmps := #[.slice k.a k.len k.cap, .slice q.a q.len q.cap, .int .i64 (N : Int), undef, undef, .pointer (some ⟨w.heap.size, 0, none⟩), .slice none 0 0, .int .i64 0, .pointer (some ⟨w1.heap.size, 0, none⟩), .pointer (some ⟨bk, 0, none⟩), .int .i64 (N : Int), .bool true, .bool false, .slice k.a k.len k.cap, .int .i64 (k.len : Int), .bool false, .bool false, .slice q.a q.len q.cap, .int .i64 (q.len : Int), .bool false, .bool false, .int .i64 (N : Int), .slice (some ⟨w.heap.size + 1, 0, none⟩) 0 N, .slice k.a k.len k.cap, .agg (bs (keyL k.b)), .slice q.a q.len q.cap, .int .i64 (N : Int), .func (.func 116) #[] #[.pointer (some ⟨A + 1 + 1, 0, none⟩), .pointer (some ⟨A, 0, none⟩), .pointer (some ⟨A + 1, 0, none⟩)], .agg (bs x.1), undef, undef, undef, undef, undef, undef, undef, undef, undef], defers := [] })
      (fun x bk W => Row W bk 23 (bs x.1)) (fun x bk W W' h e => e.trans h) ?assign ?body ?done
    case assign =>
      intro l x V K hK
      unfold encP
      have hx32 : (bs x.1).size = 32 := by rw [bs_size, x.2]
      go_simp
      gi_wp2_with (first
        | (with_reducible (show wpListIn _ _ _ _ _ (⟨_, Op.alloc 23, _, _, _, _⟩ :: _) _ _)
           refine alloc_rowIn rfl 23 rfl (bs z32) (by kernel_rfl) ?_)
        | (with_reducible (show wpListIn _ _ _ _ _ (⟨_, Op.store 23 _ _, _, _, _, _⟩ :: _) _ _)
           refine store_newIn (w := V) (by rfl) 23 _ _ (by rfl) V.heap.size (bs x.1) (by rfl) (by rfl) 23 (bs z32) (by rfl) 32 (by kernel_rfl) (by rfl) hx32 (bs_one _) ?_))
      exact hK _ ((Below.refl _ V).alloc (Nat.le_refl _) _) (by simp) (Row.new _ _ _)
    case body =>
      rintro l pre x bk V ⟨hT, hO, hNn, hbel⟩ hx hbk hlt
      have HSN := veil (toldL_snoc N pre x)
      have hLN : (toldL N pre).length ≤ N := by rw [toldL_length]; omega
      have HXL := veil x.2
      have HXT : Hid (((x.1).take (min 32 (N - (toldL N pre).length))).length = min 32 (N - (toldL N pre).length)) := show _ = _ by rw [List.length_take, x.2]; omega
      have hLs : (toldL N (pre ++ [x])).length = (toldL N pre).length + min 32 (N - (toldL N pre).length) := by rw [HSN.out, List.length_append, HXT.out]
      have HLS := veil hLs
      obtain ⟨L, hL⟩ : ∃ L, L = (toldL N pre).length := ⟨_, rfl⟩
      obtain ⟨m, hm⟩ : ∃ m, m = min 32 (N - L) := ⟨_, rfl⟩
      rw [← hL] at hT hO hLN HXT HLS HSN
      rw [← hm] at HXT HLS HSN
      have hm32 : m ≤ 32 := by omega
      have hmN : L + m ≤ N := by omega
      have HM := veil hm
      have hm0 : (0 : Int) ≤ (m : Int) := by omega
      have hmi : (m : Int) ≤ 32 := by omega
      clear hL hLs hm
      gi_wp2_with fail
      refine wpIn_region_any (by kernel_rfl) ?_
      have hTd : Row { V with drawn := V.drawn + 1 } w1.heap.size 28 #[.slice (some ⟨w.heap.size + 1, 0, none⟩) L N] := hT
      have hNd : Row { V with drawn := V.drawn + 1 } w.heap.size 3 #[.int .i64 (N : Int)] := hNn
      have hOd : OwnB { V with drawn := V.drawn + 1 } (w.heap.size + 1) (w.heap.size + 1) L N (toldL N pre) := hO.same rfl
      have hxd : Row { V with drawn := V.drawn + 1 } bk 23 (bs x.1) := hx
      have hKd : KeepP (fun j => j = w1.heap.size ∨ j = w.heap.size + 1) V { V with drawn := V.drawn + 1 } := ⟨rfl, rfl, rfl, Nat.le_refl _, fun _ _ _ => rfl⟩
      have hbd : Below w.heap.size w { V with drawn := V.drawn + 1 } := hbel.drew
      clear hT hNn hO hx hbel
      generalize ({ V with drawn := V.drawn + 1 } : World) = Vd at *
      have cT := hTd.cell 0
      have cN2 := hNd.cell 0
      have fT := hTd.frozen 0
      have cT' : Vd.cell? ⟨w1.heap.size, 0, none⟩ = some (.slice (some ⟨w.heap.size + 1, 0, none⟩) L N) := cT
      have cN' : Vd.cell? ⟨w.heap.size, 0, none⟩ = some (.int .i64 (N : Int)) := cN2
      clear cT cN2
      refine quiet_told (W := Vd) (fun x29 x30 x31 x32 x33 x34 x35 => { tmps := #[.slice k.a k.len k.cap, .slice q.a q.len q.cap, .int .i64 (N : Int), undef, undef, .pointer (some ⟨w.heap.size, 0, none⟩), .slice none 0 0, .int .i64 0, .pointer (some ⟨w1.heap.size, 0, none⟩), .pointer (some ⟨bk, 0, none⟩), .int .i64 (N : Int), .bool true, .bool false, .slice k.a k.len k.cap, .int .i64 (k.len : Int), .bool false, .bool false, .slice q.a q.len q.cap, .int .i64 (q.len : Int), .bool false, .bool false, .int .i64 (N : Int), .slice (some ⟨w.heap.size + 1, 0, none⟩) 0 N, .slice k.a k.len k.cap, .agg (bs (keyL k.b)), .slice q.a q.len q.cap, .int .i64 (N : Int), .func (.func 116) #[] #[.pointer (some ⟨A + 1 + 1, 0, none⟩), .pointer (some ⟨A, 0, none⟩), .pointer (some ⟨A + 1, 0, none⟩)], .agg (bs x.1), x29, x30, x31, x32, x33, x34, x35, undef, undef], defers := [] })
        (fun c0 c1 c2 c3 c4 c5 c6 => #[c0, c1, c2, c3, c4, c5, c6, false, false]) (.slice (some ⟨w.heap.size + 1, 0, none⟩) L N) (.int .i64 (N : Int)) (.slice (some ⟨w.heap.size + 1, 0, none⟩) L N) (.int .i64 (L : Int)) (.int .i64 ((N : Int) - (L : Int))) (.int .i64 (m : Int)) (.slice (some ⟨bk, 0, none⟩) m 32)
        (fun _ _ _ _ _ _ => rfl) (fun _ _ _ _ _ _ => rfl) (fun _ _ _ _ _ _ => rfl) (fun _ _ _ _ _ _ => rfl) (fun _ _ _ _ _ _ => rfl) (fun _ _ _ _ _ _ => rfl) (fun _ _ _ _ _ _ => rfl) ?s0 ?s1 ?s2 ?s3 ?s4 ?s5 ?s6 (by kernel_rfl) (by kernel_rfl) (by kernel_rfl) (by kernel_rfl) (by kernel_rfl) (by kernel_rfl) (by kernel_rfl) (by kernel_rfl) (by kernel_rfl) (by kernel_rfl) (by kernel_rfl) (by kernel_rfl) (by kernel_rfl) (by kernel_rfl) (by kernel_rfl) (by kernel_rfl) (by kernel_rfl) 2 ?fin
      case s0 =>
        intros
        exact OI_value rfl rfl rfl (by intro c h; cases h) (.slice (some ⟨w.heap.size + 1, 0, none⟩) L N) Vd (by go_simp) (by assumption)
      case s1 =>
        intros
        exact OI_value rfl rfl rfl (by intro c h; cases h) (.int .i64 (N : Int)) Vd (by go_simp) (by assumption)
      case s2 =>
        intros
        exact OI_value rfl rfl rfl (by intro c h; cases h) (.slice (some ⟨w.heap.size + 1, 0, none⟩) L N) Vd (by go_simp) (by assumption)
      case s3 =>
        intros
        exact OI_value rfl rfl (about_builtin _ _ _ rfl) (by intro c h; cases h) (.int .i64 (L : Int)) Vd (by go_simp) (by assumption)
      case s4 =>
        intros
        exact OI_value rfl rfl rfl (by intro c h; cases h) (.int .i64 ((N : Int) - (L : Int))) Vd (by go_simp; rw [IntKind.wrap_i64]; omega) (by assumption)
      case s5 =>
        intros
        exact OI_value rfl rfl (about_builtin _ _ _ rfl) (by intro c h; cases h) (.int .i64 (m : Int)) Vd (by go_simp; have := HM.out; split <;> omega) (by assumption)
      case s6 =>
        intros
        exact OI_value rfl rfl rfl (by intro c h; cases h) (.slice (some ⟨bk, 0, none⟩) m 32) Vd (by go_simp) (by assumption)
      case fin =>
        have hnews : ∀ j u, (vb (x.1.take m))[j]? = some u → Vd.cell? ((⟨bk, 0, none⟩ : Addr).add j) = some u := fun j u hu => by
          obtain ⟨h1, rfl⟩ := vb_get' _ j u hu
          rw [HXT.out] at h1
          rw [add_off, hxd.cellB (j := j) (by rw [HXL.out]; omega)]
          unfold gb
          rw [List.getElem?_take_of_lt h1]
        obtain ⟨V2, hr2, own3, hg2⟩ := run_append_fits (P := Tryd.prog) Vd (w.heap.size + 1) 28 28 5 i0 1 Tryd.underlying28 hi hz1 (w.heap.size + 1) L N (vb (toldL N pre)) hOd.row ⟨bk, 0, none⟩ m 32 (vb (x.1.take m)) (by rw [vb_length, HXT.out, Nat.mul_one]) hnews (vb_one _) hmN
        have hT2 : Row V2 w1.heap.size 28 #[.slice (some ⟨w.heap.size + 1, 0, none⟩) L N] := (hg2.block _ hTd.lt (fun e => by injection e with e; omega)).trans hTd
        have hN2' : Row V2 w.heap.size 3 #[.int .i64 (N : Int)] := (hg2.block _ hNd.lt (fun e => by injection e with e; omega)).trans hNd
        have cT2 : V2.cell? ⟨w1.heap.size, 0, none⟩ = some (.slice (some ⟨w.heap.size + 1, 0, none⟩) L N) := hT2.cell 0
        have fT2 := hT2.frozen 0
        have hb2 : Below w.heap.size w V2 := hbd.grown hg2 hbd.size (fun j e => by injection e with e; omega)
        refine I_one 7 (by kernel_rfl) (OI_value rfl rfl (about_builtin _ _ _ rfl) (by intro c h; cases h) (.slice (some ⟨w.heap.size + 1, 0, none⟩) (L + m) N) V2 (exec_append _ _ _ _ rfl _ _ rfl rfl _ V2 hr2) ?_)
        refine I_one 8 (by kernel_rfl) (OI_skip rfl rfl rfl (by intro c h; cases h) (V2.setCell ⟨w1.heap.size, 0, none⟩ (.slice (some ⟨w.heap.size + 1, 0, none⟩) (L + m) N)) (by go_simp) ?_)
        refine I_done (by kernel_rfl) ?_ _
        have hO2 : OwnB V2 (w.heap.size + 1) (w.heap.size + 1) (L + m) N (toldL N pre ++ x.1.take m) := ⟨by rw [List.length_append, hOd.len, HXT.out], by rw [vb_append]; exact own3⟩
        refine ⟨rfl, (hKd.trans (KeepP.grown (.inr rfl) hg2)).trans (KeepP.setCell (.inl rfl) V2 0 _), ?_⟩
        rw [HLS.out, HSN.out]
        exact ⟨hT2.set 0 _, hO2.other (by omega) _ _, hN2'.other (by show w.heap.size ≠ w1.heap.size; omega) _, hb2.setCell (p := ⟨w1.heap.size, 0, none⟩) (by show w.heap.size ≤ w1.heap.size; omega) _⟩
    case done =>
      rintro D V hD ⟨hT, hO, hNn, hbel⟩ hDd
      have hex : toldL N (partTo (keyL k.b) q.b (nparts N)) = expandL (keyL k.b) q.b N := rfl
      rw [hex] at hT hO
      have hel := expandL_length (keyL k.b) q.b N
      rw [hel] at hT hO
      have cT : V.cell? ⟨w1.heap.size, 0, none⟩ = some (.slice (some ⟨w.heap.size + 1, 0, none⟩) N N) := hT.cell 0
      have hO' := veil hO
      clear hO hT hNn
      have hlt4 : D < V.heap.size := (Array.getElem?_eq_some_iff.1 hDd).1
      have kp : Below D V (V.putObj D (.deferred none)) := below_putObj _ (Nat.le_refl _) (by omega)
      gi_wp2_with fail
      refine ⟨by simp, .inl ⟨_, _, rfl, run_takeDeferred hDd, ?_⟩⟩
      exact ⟨_, results_tmp2 rfl _ _ _, w.heap.size + 1, rfl, own_low ((hO'.out.same (kp.block _ (by omega))).row) (by omega), hbel.trans (kp.mono (by omega))⟩
end Go.Proofs.YtjccjlhnjihfjaaDoor

/-! What hkdf.infoOf answers. -/
namespace Go.Proofs.YtjccjlhnjihfjaaDoor
open Go Go.RowKit

/-- The bytes of a text. -/
def bOf (s : ByteArray) : List By := s.data.toList.map fun c => BitVec.ofNat 8 c.toNat
theorem bOf_length (s : ByteArray) : (bOf s).length = s.size := by
  unfold bOf
  rw [List.length_map, Array.length_toList]
  rfl
theorem bOf_get (s : ByteArray) (j : Nat) (h : j < s.size) : ((s.data.toList.getD j 0).toNat : Int) = v8 (gb (bOf s) j) := by
  have h' : j < s.data.toList.length := by rw [Array.length_toList]; exact h
  unfold v8 gb bOf
  rw [List.getElem?_map, List.getElem?_eq_getElem h', List.getD_eq_getElem?_getD, List.getElem?_eq_getElem h']
  simp only [Option.getD_some, Option.map_some, BitVec.toNat_ofNat]
  have := (s.data.toList[j]'h').toNat_lt
  omega

/-- What stands ahead of every name. -/
def tls : ByteArray := { data := #[116, 108, 115, 49, 51, 32] }
theorem bOf_tls (s : ByteArray) : bOf (tls ++ s) = [116, 108, 115, 49, 51, 32] ++ bOf s := by
  unfold bOf
  rw [ByteArray.data_append, Array.toList_append, List.map_append]
  rfl
theorem head_row (N n : Nat) (hN : N ≤ 8160) (hn : n ≤ 249) : (#[.int .u8 ((N : Int) / 256), .int .u8 ((N : Int) % 256), .int .u8 (6 + (n : Int))] : Array Value) = bs [BitVec.ofNat 8 (N / 256), BitVec.ofNat 8 N, BitVec.ofNat 8 (n + 6)] := by
  have h1 : v8 (BitVec.ofNat 8 (N / 256)) = (N : Int) / 256 := by unfold v8; rw [BitVec.toNat_ofNat]; omega
  have h2 : v8 (BitVec.ofNat 8 N) = (N : Int) % 256 := by unfold v8; rw [BitVec.toNat_ofNat]; omega
  have h3 : v8 (BitVec.ofNat 8 (n + 6)) = 6 + (n : Int) := by unfold v8; rw [BitVec.toNat_ofNat]; omega
  unfold bs
  rw [List.map_cons, List.map_cons, List.map_cons, h1, h2, h3]
  rfl
theorem one_row (n : Nat) (hn : n ≤ 255) : (#[.int .u8 (n : Int)] : Array Value) = bs [BitVec.ofNat 8 n] := by
  have h1 : v8 (BitVec.ofNat 8 n) = (n : Int) := by unfold v8; rw [BitVec.toNat_ofNat]; omega
  unfold bs
  rw [List.map_cons, h1]
  rfl
theorem joinB_four (a b c d : SL) : joinB [a, b, c, d] = a.b ++ (b.b ++ (c.b ++ d.b)) := by simp [joinB]

set_option maxRecDepth 20000 in
set_option maxHeartbeats 1000000 in
theorem info_any (s : ByteArray) (c : SL) (N : Nat) (w : World) (hs : s.size ≤ 249) (hc : c.Ok w) (hcl : c.len ≤ 255) (hN : N ≤ 8160) :
    Calls Tryd.prog 103 #[.string s, .slice c.a c.len c.cap, .int .i64 (N : Int)] w fun e w' => ∃ q : SL, e = .returned (.slice q.a q.len q.cap) ∧ q.Ok w' ∧ q.b = infoL (bOf s) c.b N ∧ Below w.heap.size w w' := by
  have HC := veil hc
  have hcb := hc.hb
  clear hc
  have hsz : (tls ++ s).size = s.size + 6 := by
    rw [ByteArray.size_append]
    show 6 + s.size = _
    omega
  have hrw := head_row N s.size hN hs
  have hr1 := veil (one_row c.len hcl)
  obtain ⟨W1, hW1⟩ : ∃ W1, W1 = w.alloc (.cells (bs [BitVec.ofNat 8 (N / 256), BitVec.ofNat 8 N, BitVec.ofNat 8 (s.size + 6)]) 5) := ⟨_, rfl⟩
  have hcv := Lib.run_convert_string_bytes (P := Tryd.prog) W1 9 28 5 (tls ++ s) Tryd.underlying9 Tryd.underlying28 Tryd.underlying5
  have rH : Row W1 w.heap.size 5 (bs [BitVec.ofNat 8 (N / 256), BitVec.ofNat 8 N, BitVec.ofNat 8 (s.size + 6)]) := by rw [hW1]; exact Row.new _ _ _
  have b1 : Below w.heap.size w W1 := by rw [hW1]; exact (Below.refl _ w).alloc (Nat.le_refl _) _
  have hs1 : W1.heap.size = w.heap.size + 1 := by rw [hW1]; simp
  obtain ⟨W2, hW2⟩ : ∃ W2, W2 = Lib.bytesWorld W1 5 (tls ++ s) := ⟨_, rfl⟩
  have c2 : ∀ j : Nat, j < (tls ++ s).size → W2.cell? ⟨W1.heap.size, 0 + j, none⟩ = some (.int .u8 (v8 (gb (bOf (tls ++ s)) j))) := fun j hj => by
    rw [hW2, Nat.zero_add, Lib.bytesWorld_cell W1 5 (tls ++ s) j hj, bOf_get (tls ++ s) j hj]
  have b2 : Below W1.heap.size W1 W2 := by
    rw [hW2]
    exact ⟨rfl, rfl, rfl, by rw [Lib.bytesWorld_size]; omega, fun k hk => Lib.bytesWorld_at_old W1 5 (tls ++ s) k hk⟩
  have hs2 : W2.heap.size = W1.heap.size + 1 := by rw [hW2, Lib.bytesWorld_size]
  have hcap : (tls ++ s).size ≤ grownCap W1 (tls ++ s).size 0 5 := grownCap_ge ..
  rw [← hW2] at hcv
  clear hW2
  generalize grownCap W1 (tls ++ s).size 0 5 = C at *
  have qB : (⟨some ⟨W1.heap.size, 0, none⟩, (tls ++ s).size, C, W1.heap.size, 0, bOf (tls ++ s)⟩ : SL).Ok W2 := ⟨bOf_length _, hcap, (fun h => by cases h), fun _ => rfl, (fun _ => by show W1.heap.size < W2.heap.size; omega), c2⟩
  rw [hW1] at hcv
  have hcv' : (convert 9 28 (.string ({ data := #[116, 108, 115, 49, 51, 32] } ++ s))).run Tryd.prog (w.alloc (.cells (bs [BitVec.ofNat 8 (N / 256), BitVec.ofNat 8 N, BitVec.ofNat 8 (s.size + 6)]) 5)) = _ := hcv
  have hW1s : (w.alloc (.cells (bs [BitVec.ofNat 8 (N / 256), BitVec.ofNat 8 N, BitVec.ofNat 8 (s.size + 6)]) 5)).heap.size = w.heap.size + 1 := by simp
  rw [hW1s, hsz] at hcv'
  rw [hsz, hs1] at qB
  have HQB := veil qB
  have HRH := veil rH
  have HB1 := veil b1
  have HB2 := veil b2
  clear hcv qB rH b1 b2 c2 hcap hW1
  go_enter Tryd.func103, Tryd.ntmps103
  go_wp2_with fail
  rw [hr1.out]
  have rD : Row (W2.alloc (.cells (bs [BitVec.ofNat 8 c.len]) 5)) (w.heap.size + 1 + 1) 5 (bs [BitVec.ofNat 8 c.len]) := by
    have := Row.new W2 5 (bs [BitVec.ofNat 8 c.len])
    rw [hs2, hs1] at this
    exact this
  have b3 : Below W2.heap.size W2 (W2.alloc (.cells (bs [BitVec.ofNat 8 c.len]) 5)) := (Below.refl _ W2).alloc (Nat.le_refl _) _
  have hs3 : (W2.alloc (.cells (bs [BitVec.ofNat 8 c.len]) 5)).heap.size = w.heap.size + 1 + 1 + 1 := by simp; omega
  have qB3 := HQB.out.below b3
  have rH3 := (HRH.out.below HB2.out (by omega)).below b3 (by omega)
  have bw2 := HB1.out.trans (HB2.out.mono (by omega))
  have bw3 := bw2.trans (b3.mono (by omega))
  generalize W2.alloc (.cells (bs [BitVec.ofNat 8 c.len]) 5) = W3 at *
  obtain ⟨ls, hls⟩ : ∃ ls : List SL, ls = [rowN w.heap.size 3 [BitVec.ofNat 8 (N / 256), BitVec.ofNat 8 N, BitVec.ofNat 8 (s.size + 6)], ⟨some ⟨w.heap.size + 1, 0, none⟩, s.size + 6, C, w.heap.size + 1, 0, bOf (tls ++ s)⟩, rowN (w.heap.size + 1 + 1) 1 [BitVec.ofNat 8 c.len], c] := ⟨_, rfl⟩
  have hjl : joinB ls = infoL (bOf s) c.b N := by
    rw [hls, joinB_four]
    show [BitVec.ofNat 8 (N / 256), BitVec.ofNat 8 N, BitVec.ofNat 8 (s.size + 6)] ++ (bOf (tls ++ s) ++ ([BitVec.ofNat 8 c.len] ++ c.b)) = _
    rw [bOf_tls]
    unfold infoL
    rw [bOf_length, hcb]
    simp only [List.append_assoc]
  have hvl : vls ls = #[.slice (some ⟨w.heap.size, 0, none⟩) 3 3, .slice (some ⟨w.heap.size + 1, 0, none⟩) (s.size + 6) C, .slice (some ⟨w.heap.size + 1 + 1, 0, none⟩) 1 1, .slice c.a c.len c.cap] := by rw [hls]; rfl
  rw [← hvl]
  have b4 := bw3.alloc bw3.size (.cells (vls ls) 28)
  refine (concat_any (w.heap.size + 1 + 1 + 1) 0 4 4 ls (W3.alloc (.cells (vls ls) 28)) (by rw [hls]; rfl) (by decide) (fun q hq => by
    rw [hls] at hq
    simp only [List.mem_cons, List.not_mem_nil, or_false] at hq
    rcases hq with rfl | rfl | rfl | rfl
    · exact (rowN_ok rH3 rfl).alloc _
    · exact qB3.alloc _
    · exact (rowN_ok rD rfl).alloc _
    · exact HC.out.below b4) (by rw [hjl, infoL_length, bOf_length, hcb]; omega) (by simp; omega) (fun j q hq => new_lists W3 ls _ _ hs3.symm j q hq)).mono ?_
  rintro e5 w5 ⟨q, rfl, hq5, hqb, hb5⟩
  rw [hjl] at hqb
  go_wp2_with fail
  go_ret
  exact ⟨q, rfl, hq5, hqb, b4.trans (hb5.mono b4.size)⟩
end Go.Proofs.YtjccjlhnjihfjaaDoor

/-! What hkdf.Label answers. -/
namespace Go.Proofs.YtjccjlhnjihfjaaDoor
open Go Go.RowKit

set_option maxRecDepth 20000 in
set_option maxHeartbeats 1000000 in
theorem label_ok (k c : SL) (s : ByteArray) (N : Nat) (w : World) (hk : k.Ok w) (hc : c.Ok w) (h1 : s.size ≤ 249) (h2 : c.len ≤ 255) (h3 : N ≤ 8160) (h4 : k.len ≤ 1048576) :
    Calls Tryd.prog 69 #[.slice k.a k.len k.cap, .string s, .slice c.a c.len c.cap, .int .i64 (N : Int)] w fun e w' => ∃ g, e = .returned (.tuple #[.slice (some ⟨g, 0, none⟩) N N, .int .i64 0]) ∧ w'.ownsRow w.heap.size 5 1 (.slice (some ⟨g, 0, none⟩) N N) N (vb (expandL (keyL k.b) (infoL (bOf s) c.b N) N)) ∧ Below w.heap.size w w' := by
  have HC := veil hc
  have HK := veil hk
  have hcb := hc.hb
  clear hc hk
  go_enter Tryd.func69, Tryd.ntmps69
  have g1 : ¬ (249 : Int) < (s.size : Int) := by omega
  have g2 : ¬ (255 : Int) < (c.len : Int) := by omega
  go_wp2_with fail
  refine (told_any N _).mono ?_
  rintro e1 w1 ⟨rfl, hw⟩
  rw [hw, decide_eq_true (by omega)]
  clear hw w1
  go_wp2_with fail
  refine (info_any s c N w h1 HC.out h2 h3).mono ?_
  rintro e2 w2 ⟨q, rfl, hq, hqb, hb2⟩
  have hql : q.len ≤ 1048479 := by rw [← hq.hb, hqb, infoL_length, bOf_length, hcb]; omega
  have HQ := veil hq
  have HQB := veil hqb
  have HB2 := veil hb2
  clear hq hqb hb2
  go_wp2_with fail
  refine (expand_ok k q N w2 (HK.out.below HB2.out) HQ.out h3 h4 hql).mono ?_
  rintro e3 w3 ⟨g, rfl, hown, hb3⟩
  rw [HQB.out] at hown
  go_wp2_with fail
  go_ret2
  exact ⟨g, rfl, own_low hown HB2.out.size, HB2.out.trans (hb3.mono HB2.out.size)⟩
end Go.Proofs.YtjccjlhnjihfjaaDoor

/-! The document's block, on lists: no program in sight. -/
namespace Go.Proofs.YtjccjlhnjihfjaaDoor
open Go

/-- Four bytes as a word, all at once. -/
def word4 (b : List By) (q : Nat) : Wd := oo (oo (oo (sl (ex (gb b (4 * q))) 24) (sl (ex (gb b (4 * q + 1))) 16)) (sl (ex (gb b (4 * q + 2))) 8)) (ex (gb b (4 * q + 3)))
theorem take4 (l : List By) (q : Nat) (h : 4 * q + 4 ≤ l.length) : (l.drop (4 * q)).take 4 = [gb l (4 * q), gb l (4 * q + 1), gb l (4 * q + 2), gb l (4 * q + 3)] := by
  have e : ∀ j, j < 4 → (l.drop (4 * q))[j]? = some (gb l (4 * q + j)) := fun j hj => by
    rw [List.getElem?_drop]
    unfold gb
    rw [List.getElem?_eq_getElem (show 4 * q + j < l.length by omega)]
    rfl
  apply List.ext_getElem?
  intro j
  rw [List.getElem?_take]
  match j with
  | 0 => simpa using e 0 (by omega)
  | 1 => simpa using e 1 (by omega)
  | 2 => simpa using e 2 (by omega)
  | 3 => simpa using e 3 (by omega)
  | j + 4 => simp; omega
theorem word4_up (b : List By) (q : Nat) (h : 4 * q + 4 ≤ b.length) : wordUp ((b.drop (4 * q)).take 4) = word4 b q := by
  rw [take4 b q h]
  unfold wordUp word4
  simp only [List.foldl_cons, List.foldl_nil, oo, sl]
  simp only [BitVec.shiftLeft_or_distrib, ← BitVec.shiftLeft_add]
  simp
theorem first16_get (b : List By) (q : Nat) (hq : q < 16) (hb : b.length = 64) : (first16 b)[q]? = some (word4 b q) := by
  rw [← word4_up b q (by omega)]
  simp [first16, hq]

theorem fill_set2 {α : Type} (l : List α) (z : α) (k n : Nat) (hl : k < l.length) (hk : k < n) (x : α) (hx : l[k]? = some x) :
    (l.take k ++ List.replicate (n - k) z).set k x = l.take (k + 1) ++ List.replicate (n - (k + 1)) z := by
  have hx' : l[k]'(by omega) = x := by
    rw [List.getElem?_eq_getElem (by omega)] at hx
    exact Option.some.inj hx
  rw [List.set_append_right k x (by simp; omega), List.take_succ_eq_append_getElem (by omega), hx']
  have e : n - k = (n - (k + 1)) + 1 := by omega
  simp only [List.length_take, show min k l.length = k by omega, Nat.sub_self, e, List.replicate_succ, List.set_cons_zero, List.append_assoc, List.singleton_append]
theorem shlS (x : Wd) (n : Nat) (m : Int) (hm : m = 2 ^ n) (h0 : u x * m < 4294967296) : u x * m = u (sl x n) := by
  have h1 := u_nn x
  have hp : (0 : Int) ≤ m := by rw [hm]; exact Int.le_of_lt (Int.pow_pos (by decide))
  have h2 : 0 ≤ u x * m := Int.mul_nonneg h1 hp
  rw [← wsl, ← hm]
  omega

theorem waddw (a b : Wd) : IntKind.u32.wrap (u a + u b) = u (ad a b) := by rw [IntKind.wrap_u32', wadd]
theorem cellOff {w : World} {g i j : Nat} {v : Value} (h : ¬ j = i) : (w.setCell ⟨g, i, none⟩ v).cell? ⟨g, j, none⟩ = w.cell? ⟨g, j, none⟩ := by
  simp only [World.cell?, World.setCell, Array.getElem?_modify, if_true]
  cases hg : w.heap[g]? with
  | none => rfl
  | some o =>
    cases o with
    | cells cs t f => simp [show ¬ i = j by omega]
    | _ => rfl

/-- One of the document's 64 turns. -/
theorem turn_ref (a b c d e f g h k w : Wd) : turnL [a, b, c, d, e, f, g, h] (ad k w) =
    [ad (ad (ad (ad (ad h (S1 e)) (ch e f g)) k) w) (T2 a b c), a, b, c, ad d (ad (ad (ad (ad h (S1 e)) (ch e f g)) k) w), e, f, g] := by
  have e : T1 e f g h (ad k w) = ad (ad (ad (ad h (S1 e)) (ch e f g)) k) w := by unfold T1; rw [ad_assoc _ k w]
  simp only [turnL, gw, List.getElem?_cons_zero, List.getElem?_cons_succ, Option.getD_some, e]
theorem sumS_comm (s n : List Wd) : sumS s n = sumS n s := by
  unfold sumS
  apply List.map_congr_left
  intro i _
  exact ad_comm _ _
end Go.Proofs.YtjccjlhnjihfjaaDoor

/-! An array of numbers is equal to itself, as the program asks it. -/
namespace Go.Proofs.YtjccjlhnjihfjaaDoor
open Go Go.RowKit

section
variable {P : Program} (w : World)
end
end Go.Proofs.YtjccjlhnjihfjaaDoor

/-! ChaCha20 on lists of words and bytes: no program in sight. -/
namespace Go.Proofs.YtjccjlhnjihfjaaDoor
open Go

/-- Turned left by n bits. -/
def rl (x : Wd) (n : Nat) : Wd := oo (sl x n) (sr x (32 - n))
/-- Four words, a quarter round further. -/
def qa1 (a b : Wd) : Wd := ad a b
def qd1 (a b d : Wd) : Wd := rl (xr d (qa1 a b)) 16
def qc1 (a b c d : Wd) : Wd := ad c (qd1 a b d)
def qb1 (a b c d : Wd) : Wd := rl (xr b (qc1 a b c d)) 12
def qA (a b c d : Wd) : Wd := ad (qa1 a b) (qb1 a b c d)
def qD (a b c d : Wd) : Wd := rl (xr (qd1 a b d) (qA a b c d)) 8
def qC (a b c d : Wd) : Wd := ad (qc1 a b c d) (qD a b c d)
def qB (a b c d : Wd) : Wd := rl (xr (qb1 a b c d) (qC a b c d)) 7

end Go.Proofs.YtjccjlhnjihfjaaDoor

/-! Bytes against the stream, on lists: no program in sight. -/
namespace Go.Proofs.YtjccjlhnjihfjaaDoor
open Go

end Go.Proofs.YtjccjlhnjihfjaaDoor

/-! Bytes that the document fixes: no program in sight. -/
namespace Go.Proofs.YtjccjlhnjihfjaaDoor
open Go

end Go.Proofs.YtjccjlhnjihfjaaDoor

/-! Keys of a connection, on lists, and the bytes that the document fixes: no program in sight. -/
namespace Go.Proofs.YtjccjlhnjihfjaaDoor
open Go

/-! ### Texts in hexadecimal -/
/-! ### Keys -/
/-- So many bytes of a secret by a name. -/
def lab (k : List By) (s : ByteArray) (n : Nat) : List By := expandL (keyL k) (infoL (bOf s) [] n) n
/-! ### Nonces -/
/-! ### Masks -/
/-! ### The chapter's examples -/
end Go.Proofs.YtjccjlhnjihfjaaDoor

/-! What hkdf.Label answers of a key and a name. -/
namespace Go.Proofs.YtjccjlhnjihfjaaDoor
open Go Go.RowKit

def nilK : SL := ⟨none, 0, 0, 0, 0, []⟩
theorem nilK_ok (w : World) : nilK.Ok w := ⟨rfl, Nat.le_refl _, fun _ => ⟨rfl, rfl⟩, fun h => absurd h (Nat.lt_irrefl _), fun h => absurd h (Nat.lt_irrefl _), fun _ h => absurd h (Nat.not_lt_zero _)⟩

theorem lab_any (k : SL) (s : ByteArray) (n : Nat) (w : World) (hk : k.Ok w) (h1 : s.size ≤ 249) (h3 : n ≤ 8160) (h4 : k.len ≤ 1048576) :
    Calls Tryd.prog 69 #[.slice k.a k.len k.cap, .string s, .slice none 0 0, .int .i64 (n : Int)] w fun e w' => ∃ g, e = .returned (.tuple #[.slice (some ⟨g, 0, none⟩) n n, .int .i64 0]) ∧ w'.ownsRow w.heap.size 5 1 (.slice (some ⟨g, 0, none⟩) n n) n (vb (lab k.b s n)) ∧ Below w.heap.size w w' :=
  label_ok k nilK s n w hk (nilK_ok w) h1 (by decide) h3 h4
end Go.Proofs.YtjccjlhnjihfjaaDoor

/-! What hkdf.Mac and hkdf.Extract answer. -/
namespace Go.Proofs.YtjccjlhnjihfjaaDoor
open Go Go.RowKit

/-- What Mac answers of a key and bytes. -/
def macFits (k b : List By) : Prop := k.length ≤ 1048576 ∧ b.length ≤ 1048512
instance (k b : List By) : Decidable (macFits k b) := by unfold macFits; infer_instance
def macA (k b : List By) : List By := if macFits k b then macK (keyL k) b else z32
def macE (k b : List By) : Int := if macFits k b then 0 else 3
theorem macA_length (k b : List By) : (macA k b).length = 32 := by
  unfold macA
  split
  · exact macK_length _ _
  · rfl

set_option maxRecDepth 20000 in
set_option maxHeartbeats 1000000 in
theorem macF_any (k b : SL) (w : World) (hk : k.Ok w) (hb : b.Ok w) :
    Calls Tryd.prog 71 #[.slice k.a k.len k.cap, .slice b.a b.len b.cap] w fun e w' => e = .returned (.tuple #[.agg (bs (macA k.b b.b)), .int .i64 (macE k.b b.b)]) ∧ Below w.heap.size w w' := by
  have HK := veil hk
  have HB := veil hb
  have hkl := hk.hb
  have hbl := hb.hb
  clear hk hb
  have b0 : Below w.heap.size w (w.alloc (.cells (bs z32) 23)) := (Below.refl _ w).alloc (Nat.le_refl _) _
  have q0 : Row (w.alloc (.cells (bs z32) 23)) w.heap.size 23 (bs z32) := Row.new _ _ _
  have hlim : ¬ macFits k.b b.b → macA k.b b.b = z32 ∧ macE k.b b.b = 3 := fun h => ⟨by unfold macA; rw [if_neg h], by unfold macE; rw [if_neg h]⟩
  have HLim := veil hlim
  clear hlim
  go_enter Tryd.func71, Tryd.ntmps71
  by_cases h1 : (1048576 : Int) < (k.len : Int)
  · obtain ⟨e1, e2⟩ := HLim.out (fun h => by have := h.1; omega)
    rw [e1, e2]
    clear e1 e2
    go_wp2_with (first
      | (with_reducible (show wpList _ _ _ (⟨_, Op.alloc 23, _, _, _, _⟩ :: _) _ _)
         refine alloc_row rfl 23 rfl (bs z32) (by kernel_rfl) ?_)
      | (with_reducible (show wpList _ _ _ (⟨_, Op.build 23 _, _, _, _, _⟩ :: _) _ _)
         refine build_row rfl 23 _ rfl (bs z32) (by kernel_rfl) ?_)
      | (with_reducible (show wpList _ _ _ (⟨_, Op.store 23 _ _, _, _, _, _⟩ :: _) _ _)
         refine store_new (w := w) rfl 23 _ _ rfl w.heap.size (bs z32) rfl rfl _ _ rfl 32 (by kernel_rfl) (by rfl) (by rfl) (bs_one _) ?_))
    exact bodyPost_ret (result_row_tmp rfl _ _ w.heap.size _ _ q0 32 5 (.int .i64 3) rfl rfl Tryd.underlying23 (by kernel_rfl) rfl) rfl ⟨rfl, b0⟩
  · by_cases h2 : (1048512 : Int) < (b.len : Int)
    · obtain ⟨e1, e2⟩ := HLim.out (fun h => by have := h.2; omega)
      rw [e1, e2]
      clear e1 e2
      go_wp2_with (first
        | (with_reducible (show wpList _ _ _ (⟨_, Op.alloc 23, _, _, _, _⟩ :: _) _ _)
           refine alloc_row rfl 23 rfl (bs z32) (by kernel_rfl) ?_)
        | (with_reducible (show wpList _ _ _ (⟨_, Op.build 23 _, _, _, _, _⟩ :: _) _ _)
           refine build_row rfl 23 _ rfl (bs z32) (by kernel_rfl) ?_)
        | (with_reducible (show wpList _ _ _ (⟨_, Op.store 23 _ _, _, _, _, _⟩ :: _) _ _)
           refine store_new (w := w) rfl 23 _ _ rfl w.heap.size (bs z32) rfl rfl _ _ rfl 32 (by kernel_rfl) (by rfl) (by rfl) (bs_one _) ?_))
      exact bodyPost_ret (result_row_tmp rfl _ _ w.heap.size _ _ q0 32 5 (.int .i64 3) rfl rfl Tryd.underlying23 (by kernel_rfl) rfl) rfl ⟨rfl, b0⟩
    · have hfit : macFits k.b b.b := ⟨by omega, by omega⟩
      have e1 : macA k.b b.b = macK (keyL k.b) b.b := by unfold macA; rw [if_pos hfit]
      have e2 : macE k.b b.b = 0 := by unfold macE; rw [if_pos hfit]
      rw [e1, e2]
      clear e1 e2 hfit HLim
      go_wp2_with (with_reducible (show wpList _ _ _ (⟨_, Op.alloc 23, _, _, _, _⟩ :: _) _ _)
                   refine alloc_row rfl 23 rfl (bs z32) (by kernel_rfl) ?_)
      refine (key_any k _ (HK.out.below' b0 (fun p => HK.out.lt p)) (by omega)).mono ?_
      rintro e1 w1 ⟨rfl, hb1⟩
      have q1 : Row w1 w.heap.size 23 (bs z32) := q0.below hb1 q0.lt
      have b1 := b0.trans (hb1.mono b0.size)
      clear hb1 q0 b0
      have hs1 := b1.size
      have hq1 := q1.lt
      go_wp2_with fail
      show Calls _ _ _ (w1.alloc (.cells (vls [b]) 28)) _
      have b2 := b1.alloc hs1 (.cells (vls [b]) 28)
      refine (mac_any (keyL k.b) (keyL_length _) w1.heap.size 0 1 1 [b] _ rfl (by decide) (fun s hs => by
        obtain rfl : s = b := by simpa using hs
        exact HB.out.below b2) (by rw [joinB_one]; omega) (by simp) (fun j s hs => new_lists w1 [b] _ _ rfl j s hs)).mono ?_
      rintro e2 w2 ⟨rfl, hb2⟩
      rw [joinB_one]
      have q2 := (q1.alloc (.cells (vls [b]) 28)).below hb2 (by simp; omega)
      have b3 := b2.trans (hb2.mono b2.size)
      have hsz : (bs (macK (keyL k.b) b.b)).size = 32 := by rw [bs_size, macK_length]
      go_wp2_with (with_reducible (show wpList _ _ _ (⟨_, Op.store 23 _ _, _, _, _, _⟩ :: _) _ _)
                   refine store_row rfl 23 _ _ rfl w.heap.size (bs (macK (keyL k.b) b.b)) rfl rfl _ _ q2 32 (by kernel_rfl) (by rfl) hsz (bs_one _) ?_)
      refine bodyPost_ret (result_row_tmp rfl _ _ w.heap.size _ _ (q2.put _) 32 5 (.int .i64 0) rfl rfl Tryd.underlying23 (by kernel_rfl) hsz) rfl ⟨rfl, bSetRow b3 (Nat.le_refl _) _⟩

set_option maxRecDepth 20000 in
set_option maxHeartbeats 1000000 in
theorem extract_any (k b : SL) (w : World) (hk : k.Ok w) (hb : b.Ok w) :
    Calls Tryd.prog 68 #[.slice k.a k.len k.cap, .slice b.a b.len b.cap] w fun e w' => e = .returned (.tuple #[.agg (bs (macA k.b b.b)), .int .i64 (macE k.b b.b)]) ∧ Below w.heap.size w w' := by
  have HK := veil hk
  have HB := veil hb
  clear hk hb
  have b0 : Below w.heap.size w (w.alloc (.cells (bs z32) 23)) := (Below.refl _ w).alloc (Nat.le_refl _) _
  have q0 : Row (w.alloc (.cells (bs z32) 23)) w.heap.size 23 (bs z32) := Row.new _ _ _
  have hsz : (bs (macA k.b b.b)).size = 32 := by rw [bs_size, macA_length]
  go_enter Tryd.func68, Tryd.ntmps68
  go_wp2_with (with_reducible (show wpList _ _ _ (⟨_, Op.alloc 23, _, _, _, _⟩ :: _) _ _)
               refine alloc_row rfl 23 rfl (bs z32) (by kernel_rfl) ?_)
  refine (macF_any k b _ (HK.out.below b0) (HB.out.below b0)).mono ?_
  rintro e1 w1 ⟨rfl, hb1⟩
  have q1 := q0.below hb1 q0.lt
  have b1 := b0.trans (hb1.mono b0.size)
  clear hb1 q0 b0
  go_wp2_with (with_reducible (show wpList _ _ _ (⟨_, Op.store 23 _ _, _, _, _, _⟩ :: _) _ _)
               refine store_row rfl 23 _ _ rfl w.heap.size (bs (macA k.b b.b)) rfl rfl _ _ q1 32 (by kernel_rfl) (by rfl) hsz (bs_one _) ?_)
  refine bodyPost_ret (result_row_tmp rfl _ _ w.heap.size _ _ (q1.put _) 32 5 (.int .i64 (macE k.b b.b)) rfl rfl Tryd.underlying23 (by kernel_rfl) hsz) rfl ⟨rfl, bSetRow b1 (Nat.le_refl _) _⟩
end Go.Proofs.YtjccjlhnjihfjaaDoor

/-! What both sums answer where there are too many bytes. -/
namespace Go.Proofs.YtjccjlhnjihfjaaDoor
open Go Go.RowKit Go.Shelf

end Go.Proofs.YtjccjlhnjihfjaaDoor

/-! What sha.Sum and hkdf.Extract answer, in words of slices. -/
namespace Go.Proofs.YtjccjlhnjihfjaaDoor
open Go Go.RowKit

theorem macA_fits {k b : List By} (h1 : k.length ≤ 1048576) (h2 : b.length ≤ 1048512) : macA k b = macK (keyL k) b ∧ macE k b = 0 := by
  unfold macA macE
  rw [if_pos (show macFits k b from ⟨h1, h2⟩), if_pos (show macFits k b from ⟨h1, h2⟩)]
  exact ⟨rfl, rfl⟩
theorem ext_sl (k b : SL) (w : World) (hk : k.Ok w) (hb : b.Ok w) (h1 : k.len ≤ 1048576) (h2 : b.len ≤ 1048512) :
    Calls Tryd.prog 68 #[.slice k.a k.len k.cap, .slice b.a b.len b.cap] w fun e w' => e = .returned (.tuple #[.agg (bs (macK (keyL k.b) b.b)), .int .i64 0]) ∧ Below w.heap.size w w' := by
  have h := extract_any k b w hk hb
  obtain ⟨e1, e2⟩ := macA_fits (k := k.b) (b := b.b) (by rw [hk.hb]; exact h1) (by rw [hb.hb]; exact h2)
  rw [e1, e2] at h
  exact h
end Go.Proofs.YtjccjlhnjihfjaaDoor

/-! What mailcoachref02.Padded answers. -/
namespace Go.Proofs.YtjccjlhnjihfjaaDoor
open Go Go.RowKit

theorem len_shift (n q : Nat) : (n : Int) * 8 / 2 ^ (8 * q) % 256 = v8 (BitVec.ofNat 8 (8 * n / 2 ^ (8 * q))) := by
  unfold v8
  rw [BitVec.toNat_ofNat]
  have e : (n : Int) * 8 / 2 ^ (8 * q) = ((8 * n / 2 ^ (8 * q) : Nat) : Int) := by
    rw [Int.natCast_ediv, Int.natCast_pow]
    push_cast
    congr 1
    omega
  rw [e]
  omega
theorem lenB_take (n k : Nat) (h : k < 8) : (lenB n).take (k + 1) = (lenB n).take k ++ [BitVec.ofNat 8 (8 * n / 2 ^ (8 * (7 - k)))] := by
  rw [List.take_add_one, lenB_get n k h]
  rfl

set_option maxRecDepth 20000 in
set_option maxHeartbeats 1000000 in
theorem padded_any (g off : Nat) (a : Option Addr) (len cap : Nat) (b : List By) (w : World) (hb : b.length = len) (hl : len ≤ 1048576) (hn : a = none → len = 0 ∧ cap = 0) (ha : 0 < len → a = some ⟨g, off, none⟩) (hc : ∀ j : Nat, j < len → w.cell? ⟨g, off + j, none⟩ = some (.int .u8 (v8 (gb b j)))) :
    Calls Tryd.prog 119 #[.slice a len cap] w fun e w' => ∃ g' c', e = .returned (.slice (some ⟨g', 0, none⟩) (64 * nb b) c') ∧ OwnB w' w.heap.size g' (64 * nb b) c' (padL b) ∧ Below w.heap.size w w' := by
  obtain ⟨i0, hi, hz0, hz1, hz2⟩ := info_parts (P := Tryd.prog) (e := 5) (z := .int .u8 0) (size := 1) (bytes := 1) (by kernel_rfl)
  have HB := veil hb
  have HA := veil ha
  have HN := veil hn
  have HC := veil hc
  clear hb ha hc hn
  go_enter Tryd.func119, Tryd.ntmps119
  go_wp2_with (first
    | (with_reducible (show wpList _ _ _ (⟨some 8, Op.call _, _, _, _, _⟩ :: _) _ _)
       refine append_in rfl _ _ 28 rfl w.heap.size i0 Tryd.underlying28 hi hz0 hz1 hz2 rfl a g off len cap b HB.out (by omega) rfl HN.out HA.out HC.out (Nat.le_refl _) ?_
       intro v2 w2 hown2 hgrow2
       have hs2 := hgrow2.size)
    | (with_reducible (show wpList _ _ _ (⟨some 11, Op.call _, _, _, _, _⟩ :: _) _ _)
       refine wpList_append_own _ rfl _ _ 28 rfl w.heap.size 5 i0 (.int .u8 0) 1 1 Tryd.underlying28 hi hz0 hz1 hz2 rfl (by decide) _ len _ rfl (hown2.alloc _) ⟨w2.heap.size, 0, none⟩ 1 1 [.int .u8 128] rfl rfl (cell_one_new _ _ _) (by simp [Value.oneCell']) (by unfold maxLen; omega) (by omega) (by simp; omega) ?_
       intro v3 w3 hown3 hgrow3 _
       obtain ⟨g3, c3, rfl⟩ := ownsRow_succ hown3))
  have HO3 : Hid (OwnB w3 w.heap.size g3 (len + 1) c3 (b ++ [128])) := ⟨by rw [List.length_append, HB.out]; rfl, by rw [vb_append]; exact hown3⟩
  have HB2 : Below w.heap.size w w2 := (Below.refl _ w).grown hgrow2 (Nat.le_refl _) (fun k e => by cases e)
  have HB3 : Hid (Below w.heap.size w w3) := (HB2.alloc HB2.size _).grown hgrow3 (by simp; omega) (fun k e => ((hown2.alloc (.cells #[.int .u8 128] 5)).lt k e).1)
  clear hown3 hgrow3 hown2 hgrow2 HB2
  have HPZ := padZ_le len
  have HPM := padZ_mod len
  go_loopw [3] (fun v wr => ∃ (k g' c' : Nat), k ≤ padZ len ∧ v = .slice (some ⟨g', 0, none⟩) (len + 1 + k) c' ∧ OwnB wr w.heap.size g' (len + 1 + k) c' (b ++ 128 :: List.replicate k 0) ∧ Below w.heap.size w wr)
    (fun v _ => padZ len + len + 1 - slen v)
  case atStart => exact ⟨0, g3, c3, Nat.zero_le _, rfl, HO3.out, HB3.out⟩
  case round =>
    clear HO3 HB3
    obtain ⟨k, g4, c4, hk, rfl, ho, hbel⟩ := hrel
    have HO := veil ho
    have HBl := veil hbel
    have hsz := hbel.size
    clear ho hbel
    by_cases hlt : k < padZ len
    · have hne : ¬ (len + 1 + k) % 64 = 56 := by unfold padZ at hlt; omega
      have hneI : ¬ ((len : Int) + 1 + (k : Int)) % 64 = 56 := by omega
      go_wp2_with (first
        | (with_reducible (show wpList _ _ _ (⟨some 18, Op.call _, _, _, _, _⟩ :: _) _ _)
           refine wpList_append_own _ rfl _ _ 28 rfl w.heap.size 5 i0 (.int .u8 0) 1 1 Tryd.underlying28 hi hz0 hz1 hz2 rfl (by decide) _ (len + 1 + k) _ rfl (HO.out.row.alloc _) ⟨wr.heap.size, 0, none⟩ 1 1 [.int .u8 0] rfl rfl (cell_one_new _ _ _) (by simp [Value.oneCell']) (by unfold maxLen; omega) (by omega) (by simp; omega) ?_
           intro v5 w5 hown5 hgrow5 _
           obtain ⟨g5, c5, rfl⟩ := ownsRow_succ hown5))
      refine ⟨⟨k + 1, g5, c5, by omega, rfl, ⟨?_, ?_⟩, (HBl.out.alloc HBl.out.size _).grown hgrow5 (by simp; omega) (fun q e => ((HO.out.row.alloc (.cells #[.int .u8 0] 5)).lt q e).1)⟩, ?_⟩
      · simp only [List.length_append, List.length_cons, List.length_replicate, HB.out]; omega
      · have e : b ++ 128 :: List.replicate (k + 1) 0 = (b ++ 128 :: List.replicate k 0) ++ [0] := by
          rw [List.replicate_succ', List.append_assoc, List.cons_append]
        rw [e, vb_append]
        exact hown5
      · simp only [slen]; omega
    · obtain rfl : k = padZ len := by omega
      have heq : (len + 1 + padZ len) % 64 = 56 := padZ_mod len
      have heqI : ((len : Int) + 1 + (padZ len : Int)) % 64 = 56 := by omega
      generalize wr = W0 at *
      have HPad : Hid (padL b = (b ++ 128 :: List.replicate (padZ len) 0) ++ lenB len) := show padL b = _ by
        unfold padL; rw [HB.out, List.append_assoc, List.cons_append]
      have HNb : Hid (64 * nb b = len + 1 + padZ len + 8) := show 64 * nb b = _ by rw [nb_mul, padL_length, HB.out]; omega
      generalize padZ len = z at *
      go_wp2_with fail
      clear heq heqI HPM
      go_loopw [3, 5] (fun v i wr => ∃ (k g' c' : Nat), k ≤ 8 ∧ i = .int .i64 (7 - (k : Int)) ∧ v = .slice (some ⟨g', 0, none⟩) (len + 1 + z + k) c' ∧ OwnB wr w.heap.size g' (len + 1 + z + k) c' ((b ++ 128 :: List.replicate z 0) ++ (lenB len).take k) ∧ Below w.heap.size w wr)
        (fun _ i _ => (intOf i + 1).toNat)
      case atStart => exact ⟨0, g4, c4, Nat.zero_le _, rfl, rfl, by rw [List.take_zero, List.append_nil]; exact HO.out, HBl.out⟩
      case round =>
        clear HO HBl
        obtain ⟨k, g6, c6, hk, rfl, rfl, ho, hbel⟩ := hrel
        have HO := veil ho
        have HBl := veil hbel
        have hsz := hbel.size
        clear ho hbel
        by_cases hlt : k < 8
        · obtain ⟨q, hq⟩ : ∃ q : Nat, q + k = 7 := ⟨7 - k, by omega⟩
          have hqI : (7 : Int) - (k : Int) = (q : Int) := by omega
          rw [hqI]
          have hq0 : (0 : Int) ≤ (q : Int) := by omega
          have hw1 : IntKind.i64.wrap (8 * (q : Int)) = 8 * (q : Int) := by rw [IntKind.wrap_i64]; omega
          have HT := veil (lenB_take len k hlt)
          have HV := veil (len_shift len q)
          go_wp2_with (first
            | (with_reducible (show wpList _ _ _ (⟨some 34, Op.call _, _, _, _, _⟩ :: _) _ _)
               refine wpList_append_own _ rfl _ _ 28 rfl w.heap.size 5 i0 (.int .u8 0) 1 1 Tryd.underlying28 hi hz0 hz1 hz2 rfl (by decide) _ (len + 1 + z + k) _ rfl (HO.out.row.alloc _) ⟨wr.heap.size, 0, none⟩ 1 1 [.int .u8 ((len : Int) * 8 / 2 ^ (8 * q) % 256)] rfl rfl (cell_one_new _ _ _) (by simp [Value.oneCell']) (by unfold maxLen; omega) (by omega) (by simp; omega) ?_
               intro v7 w7 hown7 hgrow7 _
               obtain ⟨g7, c7, rfl⟩ := ownsRow_succ hown7))
          go_roundw
          case rel =>
            refine ⟨k + 1, g7, c7, by omega, ?_, rfl, ⟨?_, ?_⟩, (HBl.out.alloc HBl.out.size _).grown hgrow7 (by simp; omega) (fun q e => ((HO.out.row.alloc (.cells #[] 5)).lt q e).1)⟩
            · congr 1; omega
            · rw [HT.out]
              have := HO.out.len
              simp only [List.length_append, List.length_cons, List.length_nil] at this ⊢
              omega
            · rw [HT.out, ← List.append_assoc, vb_append, show 7 - k = q by omega]
              rw [HV.out] at hown7
              exact hown7
          case measure => simp only [intOf]; omega
        · obtain rfl : k = 8 := by omega
          go_wp2
          go_ret
          have ho := HO.out
          rw [List.take_of_length_le (by rw [lenB_length]; exact Nat.le_refl _), ← HPad.out, ← HNb.out] at ho
          refine ⟨g6, c6, by rw [HNb.out]; rfl, ho, HBl.out⟩
end Go.Proofs.YtjccjlhnjihfjaaDoor

/-! What the document's turn, Words, Begin answer. -/
namespace Go.Proofs.YtjccjlhnjihfjaaDoor
open Go Go.RowKit

set_option maxHeartbeats 400000 in
theorem refTurn_any (x : Wd) (n : Int) (w : World) (h0 : 1 ≤ n) (h1 : n ≤ 31) :
    Calls Tryd.prog 128 #[.int .u32 (u x), .int .i64 n] w fun e w' => e = .returned (.int .u32 (u (rr x n.toNat))) ∧ ∃ m, w' = w.drewN m := by
  have hs1 := wsl x (32 - n.toNat)
  have hs2 := wsr x n.toNat
  have hb : bits .or .u32 (u (sr x n.toNat)) (u (sl x (32 - n.toNat))) = u (rr x n.toNat) := bo _ _
  have e1 : (32 - n).toNat = 32 - n.toNat := by omega
  have e2 : (0 : Int) ≤ 32 - n ∧ 32 - n ≤ 31 := by omega
  have e3 : IntKind.i64.wrap (32 - n) = 32 - n := by rw [IntKind.wrap_i64]; omega
  go_enter Tryd.func128, Tryd.ntmps128
  go_wp2
  go_quiet (fail)
  go_wp2
  go_ret
  exact ⟨by simp [hs1], _, rfl⟩

set_option maxRecDepth 20000 in
set_option maxHeartbeats 400000 in
theorem refWords_any (w : World) :
    Calls Tryd.prog 129 #[] w fun e w' => e = .returned (.agg (ws KW)) ∧ w' = w.alloc (.cells (ws KW) 180) := by
  go_enter Tryd.func129, Tryd.ntmps129
  go_wp2_with (first
    | (with_reducible (show wpList _ _ _ (⟨_, Op.build 180 _, _, _, _, _⟩ :: _) _ _)
       refine build_row rfl 180 _ rfl (ws KW) (by kernel_rfl) ?_)
    | (with_reducible (show wpList _ _ _ (⟨_, Op.store 180 _ _, _, _, _, _⟩ :: _) _ _)
       refine store_new (w := w) rfl 180 _ _ rfl w.heap.size (ws KW) rfl rfl _ _ rfl 64 (by kernel_rfl) (by rfl) (by rw [ws_size, KW_length]) (ws_one _) ?_))
  exact bodyPost_ret (result_row rfl _ _ w.heap.size _ _ (Row.new _ _ _) 64 176 rfl Tryd.underlying180 (by kernel_rfl) (by rw [ws_size, KW_length])) rfl ⟨rfl, rfl⟩

set_option maxRecDepth 20000 in
set_option maxHeartbeats 400000 in
theorem refBegin_any (w : World) :
    Calls Tryd.prog 120 #[] w fun e w' => e = .returned (.agg (ws HW)) ∧ w' = w.alloc (.cells (ws HW) 177) := by
  go_enter Tryd.func120, Tryd.ntmps120
  go_wp2_with (first
    | (with_reducible (show wpList _ _ _ (⟨_, Op.build 177 _, _, _, _, _⟩ :: _) _ _)
       refine build_row rfl 177 _ rfl (ws HW) (by kernel_rfl) ?_)
    | (with_reducible (show wpList _ _ _ (⟨_, Op.store 177 _ _, _, _, _, _⟩ :: _) _ _)
       refine store_new (w := w) rfl 177 _ _ rfl w.heap.size (ws HW) rfl rfl _ _ rfl 8 (by kernel_rfl) (by rfl) (by rw [ws_size, HW_length]) (ws_one _) ?_))
  exact bodyPost_ret (result_row rfl _ _ w.heap.size _ _ (Row.new _ _ _) 8 176 rfl Tryd.underlying177 (by kernel_rfl) (by rw [ws_size, HW_length])) rfl ⟨rfl, rfl⟩
end Go.Proofs.YtjccjlhnjihfjaaDoor

/-! What the document's Block answers. -/
namespace Go.Proofs.YtjccjlhnjihfjaaDoor
open Go Go.RowKit

set_option maxRecDepth 20000 in
set_option maxHeartbeats 1000000 in
theorem refBlock_any (s : List Wd) (b : List By) (hs : s.length = 8) (hb : b.length = 64) (w : World) :
    Calls Tryd.prog 121 #[.agg (ws s), .agg (bs b)] w fun e w' => e = .returned (.agg (ws (furtherL s KW b))) ∧ Below w.heap.size w w' := by
  have HS : Hid (s.length = 8) := hs
  have HB : Hid (b.length = 64) := hb
  clear hs hb
  go_enter Tryd.func121, Tryd.ntmps121
  go_wp2
  go_loopw [6] (fun i wr => ∃ t : Nat, t ≤ 16 ∧ i = .int .i64 t ∧ Row wr w.heap.size 177 (ws s) ∧ Row wr (w.heap.size + 1) 162 (bs b) ∧ Row wr (w.heap.size + 1 + 1) 177 (ws (List.replicate 8 0)) ∧ Row wr (w.heap.size + 1 + 1 + 1) 180 (ws ((first16 b).take t ++ List.replicate (64 - t) 0)) ∧ Below w.heap.size w wr)
    (fun i _ => 16 - (intOf i).toNat)
  case atStart =>
    refine ⟨0, by omega, rfl, (((Row.new _ _ _).alloc _).alloc _).alloc _, ((Row.new1 _ _ _ _).alloc _).alloc _, (Row.new2 _ _ _ _ (ws (List.replicate 8 0))).alloc _, Row.new3 _ _ _ _ _ (ws (List.replicate 64 0)), ((((Below.refl _ w).alloc (Nat.le_refl _) _).alloc (by simp) _).alloc (by simp; omega) _).alloc (by simp; omega) _⟩
  case round =>
    obtain ⟨t, ht, rfl, r0, r1, r2, r3, hbel⟩ := hrel
    by_cases hlt : t < 16
    · have hbl : (bs b).size = 64 := by rw [bs_size, HB.out]
      have c0 := r1.cellB (j := 4 * t) (by rw [HB.out]; omega)
      have c1 := r1.cellB (j := 4 * t + 1) (by rw [HB.out]; omega)
      have c2 := r1.cellB (j := 4 * t + 2) (by rw [HB.out]; omega)
      have c3 := r1.cellB (j := 4 * t + 3) (by rw [HB.out]; omega)
      obtain ⟨v, hv⟩ : ∃ v, wr.cell? ⟨w.heap.size + 1 + 1 + 1, t, none⟩ = some v := ⟨_, r3.cellW (by simp [first16_length]; omega)⟩
      have f3 := r3.frozen t
      have HG : Hid (((first16 b).take t ++ List.replicate (64 - t) 0).set t (word4 b t) = (first16 b).take (t + 1) ++ List.replicate (64 - (t + 1)) 0) := fill_set2 (first16 b) 0 t 64 (by rw [first16_length]; omega) (by omega) _ (first16_get b t hlt HB.out)
      have HW : Hid (word4 b t = oo (oo (oo (sl (ex (gb b (4 * t))) 24) (sl (ex (gb b (4 * t + 1))) 16)) (sl (ex (gb b (4 * t + 2))) 8)) (ex (gb b (4 * t + 3)))) := rfl
      rw [v8_ex] at c0 c1 c2 c3
      generalize gb b (4 * t) = b0 at *
      generalize gb b (4 * t + 1) = b1 at *
      generalize gb b (4 * t + 2) = b2 at *
      generalize gb b (4 * t + 3) = b3 at *
      have u0 := u_nn (ex b0); have u1 := u_nn (ex b1); have u2 := u_nn (ex b2); have u3 := u_nn (ex b3)
      have l0 : u (ex b0) ≤ 255 := by rw [← v8_ex]; exact v8_le _
      have l1 : u (ex b1) ≤ 255 := by rw [← v8_ex]; exact v8_le _
      have l2 : u (ex b2) ≤ 255 := by rw [← v8_ex]; exact v8_le _
      have l3 : u (ex b3) ≤ 255 := by rw [← v8_ex]; exact v8_le _
      have hw0 : IntKind.i64.wrap (4 * (t : Int)) = 4 * (t : Int) := by rw [IntKind.wrap_i64]; omega
      have hw1 : IntKind.i64.wrap (4 * (t : Int) + 1) = 4 * (t : Int) + 1 := by rw [IntKind.wrap_i64]; omega
      have hw2 : IntKind.i64.wrap (4 * (t : Int) + 2) = 4 * (t : Int) + 2 := by rw [IntKind.wrap_i64]; omega
      have hw3 : IntKind.i64.wrap (4 * (t : Int) + 3) = 4 * (t : Int) + 3 := by rw [IntKind.wrap_i64]; omega
      have q0 : (4 * (t : Int)).toNat = 4 * t := by omega
      have q1 : (4 * (t : Int) + 1).toNat = 4 * t + 1 := by omega
      have q2 : (4 * (t : Int) + 2).toNat = 4 * t + 2 := by omega
      have q3 : (4 * (t : Int) + 3).toNat = 4 * t + 3 := by omega
      have p0 : (0 : Int) ≤ 4 * (t : Int) ∧ 4 * (t : Int) < 64 := by omega
      have p1 : (0 : Int) ≤ 4 * (t : Int) + 1 ∧ 4 * (t : Int) + 1 < 64 := by omega
      have p2 : (0 : Int) ≤ 4 * (t : Int) + 2 ∧ 4 * (t : Int) + 2 < 64 := by omega
      have p3 : (0 : Int) ≤ 4 * (t : Int) + 3 ∧ 4 * (t : Int) + 3 < 64 := by omega
      have p4 : (0 : Int) ≤ (t : Int) ∧ (t : Int) < 64 := by omega
      clear hbl
      have HV : Hid (bits .or .u32 (bits .or .u32 (bits .or .u32 (u (ex b0) * 16777216) (u (ex b1) * 65536)) (u (ex b2) * 256)) (u (ex b3)) = u (word4 b t)) := show _ = _ by
        rw [shlS (ex b0) 24 16777216 (by decide) (by omega), shlS (ex b1) 16 65536 (by decide) (by omega), shlS (ex b2) 8 256 (by decide) (by omega), bo, bo, bo, HW.out]
      go_wp2
      go_region
      all_goals go_wp2
      all_goals
        go_roundw
        case rel =>
          rw [HV.out]
          refine ⟨t + 1, by omega, by go_num, r0.other (by show w.heap.size ≠ w.heap.size + 1 + 1 + 1; omega) _, r1.other (by show w.heap.size + 1 ≠ w.heap.size + 1 + 1 + 1; omega) _, r2.other (by show w.heap.size + 1 + 1 ≠ w.heap.size + 1 + 1 + 1; omega) _, ?_, (hbel.setCell (p := ⟨w.heap.size + 1 + 1 + 1, t, none⟩) (by show w.heap.size ≤ w.heap.size + 1 + 1 + 1; omega) _).drew⟩
          have := r3.set t (.int .u32 (u (word4 b t)))
          rw [ws_set, HG.out] at this
          exact this
        case measure => simp [intOf]; omega
    · have r4 : Row wr (w.heap.size + 1 + 1 + 1) 180 (ws (schedR b 0)) := by
        have := r3
        rw [show t = 16 by omega, List.take_of_length_le (by rw [first16_length]; exact Nat.le_refl _)] at this
        exact this
      have hd : decide ((t : Int) < 16) = false := by simp; omega
      clear r3 r1
      go_wp2
      go_loopw [7] (fun i wr => ∃ t : Nat, 16 ≤ t ∧ t ≤ 64 ∧ i = .int .i64 t ∧ Row wr w.heap.size 177 (ws s) ∧ Row wr (w.heap.size + 1 + 1) 177 (ws (List.replicate 8 0)) ∧ Row wr (w.heap.size + 1 + 1 + 1) 180 (ws (schedR b (t - 16))) ∧ Below w.heap.size w wr)
        (fun i _ => 64 - (intOf i).toNat)
      case atStart => exact ⟨16, by omega, by omega, rfl, r0, r2, r4, hbel⟩
      case round =>
        clear r0 r2 r4 hbel hd ht hlt
        obtain ⟨t, ht0, ht, rfl, r0, r2, r3, hbel⟩ := hrel
        by_cases hlt : t < 64
        · have hlen : (schedR b (t - 16)).length = 64 := schedR_length b _ (by omega)
          have c2 := r3.cellW (j := t - 2) (by rw [hlen]; omega)
          have c15 := r3.cellW (j := t - 15) (by rw [hlen]; omega)
          have c7 := r3.cellW (j := t - 7) (by rw [hlen]; omega)
          have c16 := r3.cellW (j := t - 16) (by rw [hlen]; omega)
          obtain ⟨v, hv⟩ : ∃ v, wr.cell? ⟨w.heap.size + 1 + 1 + 1, t, none⟩ = some v := ⟨_, r3.cellW (by rw [hlen]; omega)⟩
          have f3 := r3.frozen t
          have hst : Hid ((schedR b (t - 16)).set t (ad (ad (ad (s1 (gw (schedR b (t - 16)) (t - 2))) (gw (schedR b (t - 16)) (t - 7))) (s0 (gw (schedR b (t - 16)) (t - 15)))) (gw (schedR b (t - 16)) (t - 16))) = schedR b (t + 1 - 16)) := by
            have := schedR_step b (t - 16) (by omega)
            rw [show 16 + (t - 16) = t by omega, show t - 16 + 1 = t + 1 - 16 by omega] at this
            exact this
          generalize gw (schedR b (t - 16)) (t - 2) = x2 at *
          generalize gw (schedR b (t - 16)) (t - 7) = x7 at *
          generalize gw (schedR b (t - 16)) (t - 15) = x15 at *
          generalize gw (schedR b (t - 16)) (t - 16) = x16 at *
          clear hlen
          have h10 : u x2 / 1024 = u (sr x2 10) := wsr x2 10
          have h3 : u x15 / 8 = u (sr x15 3) := wsr x15 3
          have hx1 := bx (rr x2 17) (rr x2 19)
          have hx2 : bits .xor .u32 (u (xr (rr x2 17) (rr x2 19))) (u (sr x2 10)) = u (s1 x2) := bx _ _
          have hx3 := bx (rr x15 7) (rr x15 18)
          have hx4 : bits .xor .u32 (u (xr (rr x15 7) (rr x15 18))) (u (sr x15 3)) = u (s0 x15) := bx _ _
          have hp1 := wadd (s1 x2) x7
          have hp2 := wadd (ad (s1 x2) x7) (s0 x15)
          have hp3 := wadd (ad (ad (s1 x2) x7) (s0 x15)) x16
          have hw7 : IntKind.i64.wrap ((t : Int) - 7) = (t : Int) - 7 := by rw [IntKind.wrap_i64]; omega
          have hw16 : IntKind.i64.wrap ((t : Int) - 16) = (t : Int) - 16 := by rw [IntKind.wrap_i64]; omega
          have hq7 : ((t : Int) - 7).toNat = t - 7 := by omega
          have hq16 : ((t : Int) - 16).toNat = t - 16 := by omega
          have hl7 : (0 : Int) ≤ (t : Int) - 7 ∧ (t : Int) - 7 < 64 := by omega
          have hl16 : (0 : Int) ≤ (t : Int) - 16 ∧ (t : Int) - 16 < 64 := by omega
          have hlt' : (0 : Int) ≤ (t : Int) ∧ (t : Int) < 64 := by omega
          have h7a : 7 ≤ t := by omega
          have h7b : (7 : Int) ≤ (t : Int) := by omega
          have h16b : (16 : Int) ≤ (t : Int) := by omega
          have hn7 : ¬ (t = t - 7) := by omega
          have hn16 : ¬ (t = t - 16) := by omega
          have hn7' : ¬ (t - 7 = t) := by omega
          have hn16' : ¬ (t - 16 = t) := by omega
          go_wp2
          go_region_held3 (fun w' => w'.cell? ⟨w.heap.size + 1 + 1 + 1, t - 7, none⟩ = some (.int .u32 (u x7)) ∧ w'.cell? ⟨w.heap.size + 1 + 1 + 1, t - 16, none⟩ = some (.int .u32 (u x16))) (first | go_keep | (exact ⟨(cellOff hn7').trans c7, (cellOff hn16').trans c16⟩))
            (first
              | (go_at_call_of 128 (u x2); refine (refTurn_any x2 _ _ ?_ ?_).mono ?_; (omega); (omega); rintro e1 w2 ⟨rfl, m, hw⟩; rw [hw]; clear hw)
              | (go_at_call_of 128 (u x15); refine (refTurn_any x15 _ _ ?_ ?_).mono ?_; (omega); (omega); rintro e1 w2 ⟨rfl, m, hw⟩; rw [hw]; clear hw))
          all_goals go_wp2
          all_goals
            go_roundw
            case rel =>
              rw [hp1, hp2, hp3]
              refine ⟨t + 1, by omega, by omega, by go_num, r0.other (by show w.heap.size ≠ w.heap.size + 1 + 1 + 1; omega) _, r2.other (by show w.heap.size + 1 + 1 ≠ w.heap.size + 1 + 1 + 1; omega) _, ?_, (below_drewN hbel _).setCell (p := ⟨w.heap.size + 1 + 1 + 1, t, none⟩) (by show w.heap.size ≤ w.heap.size + 1 + 1 + 1; omega) _⟩
              have := r3.set t (.int .u32 (u (ad (ad (ad (s1 x2) x7) (s0 x15)) x16)))
              rw [ws_set, hst.out] at this
              exact this
            case measure => simp [intOf]; omega
        · rw [show t - 16 = 48 by omega, schedR_all] at r3
          have hd : decide ((t : Int) < 64) = false := by simp; omega
          generalize wr = W2 at *
          have hl0 := r0.lt
          have hl3 := r3.lt
          go_wp2_with fail
          refine (refWords_any W2).mono ?_
          rintro e1 w1 ⟨rfl, hw⟩
          rw [hw]
          clear hw w1
          have q0 := (r0.alloc (.cells (ws KW) 180)).alloc (.cells (ws KW) 180)
          go_wp2_with (first
            | (with_reducible (show wpList _ _ _ (⟨_, Op.store 180 _ _, _, _, _, _⟩ :: _) _ _)
               refine store_new (w := W2.alloc (.cells (ws KW) 180)) rfl 180 _ _ rfl (W2.heap.size + 1) (ws KW) rfl rfl _ _ (by simp) 64 (by kernel_rfl) (by rfl) (by rw [ws_size, KW_length]) (ws_one _) ?_)
            | (with_reducible (show wpList _ _ _ (⟨_, Op.load 177 _, _, _, _, _⟩ :: _) _ _)
               refine load_row rfl 177 _ rfl w.heap.size rfl _ _ q0 8 176 Tryd.underlying177 (by kernel_rfl) (by rw [ws_size, HS.out]) ?_)
            | (with_reducible (show wpList _ _ _ (⟨_, Op.store 177 _ _, _, _, _, _⟩ :: _) _ _)
               refine store_new (w := (W2.alloc (.cells (ws KW) 180)).alloc (.cells (ws KW) 180)) rfl 177 _ _ rfl (W2.heap.size + 1 + 1) (ws s) rfl rfl _ _ (by simp) 8 (by kernel_rfl) (by rfl) (by rw [ws_size, HS.out]) (ws_one _) ?_))
          go_loopw [12] (fun i w3 => ∃ t : Nat, t ≤ 64 ∧ i = .int .i64 t ∧ Row w3 w.heap.size 177 (ws s) ∧ Row w3 (w.heap.size + 1 + 1) 177 (ws (List.replicate 8 0)) ∧ Row w3 (w.heap.size + 1 + 1 + 1) 180 (ws (sched b)) ∧ Row w3 (W2.heap.size + 1) 180 (ws KW) ∧ Row w3 (W2.heap.size + 1 + 1) 177 (ws (roundsTo s KW (sched b) t)) ∧ Below w.heap.size w w3)
            (fun i _ => 64 - (intOf i).toNat)
          case atStart => exact ⟨0, by omega, rfl, q0.alloc _, ((r2.alloc _).alloc _).alloc _, ((r3.alloc _).alloc _).alloc _, (Row.new1 _ _ _ _).alloc _, Row.new2 _ _ _ _ _, ((hbel.alloc hbel.size _).alloc (by have := hbel.size; simp; omega) _).alloc (by have := hbel.size; simp; omega) _⟩
          case round =>
            clear r0 r2 r3 hbel q0
            obtain ⟨t, ht, rfl, r0, r2, r3, r4, r5, hbel⟩ := hrel
            by_cases hlt : t < 64
            · obtain ⟨a, b', c, d, e, f, g, h, he⟩ := eight (roundsTo_length s KW (sched b) HS.out t)
              have HE : Hid (roundsTo s KW (sched b) (t + 1) = turnL [a, b', c, d, e, f, g, h] (ad (gw KW t) (gw (sched b) t))) := show roundsTo s KW (sched b) (t + 1) = _ by rw [roundsTo, he]
              rw [turn_ref] at HE
              rw [he] at r5
              have ck := r4.cellW (j := t) (by rw [KW_length]; exact hlt)
              have cw := r3.cellW (j := t) (by rw [sched_length]; exact hlt)
              generalize gw KW t = x at *
              generalize gw (sched b) t = y at *
              have c0 : wr.cell? ⟨W2.heap.size + 1 + 1, 0, none⟩ = some (.int .u32 (u a)) := r5.cellW (j := 0) (by simp)
              have c1 : wr.cell? ⟨W2.heap.size + 1 + 1, 1, none⟩ = some (.int .u32 (u b')) := r5.cellW (j := 1) (by simp)
              have c2 : wr.cell? ⟨W2.heap.size + 1 + 1, 2, none⟩ = some (.int .u32 (u c)) := r5.cellW (j := 2) (by simp)
              have c3 : wr.cell? ⟨W2.heap.size + 1 + 1, 3, none⟩ = some (.int .u32 (u d)) := r5.cellW (j := 3) (by simp)
              have c4 : wr.cell? ⟨W2.heap.size + 1 + 1, 4, none⟩ = some (.int .u32 (u e)) := r5.cellW (j := 4) (by simp)
              have c5 : wr.cell? ⟨W2.heap.size + 1 + 1, 5, none⟩ = some (.int .u32 (u f)) := r5.cellW (j := 5) (by simp)
              have c6 : wr.cell? ⟨W2.heap.size + 1 + 1, 6, none⟩ = some (.int .u32 (u g)) := r5.cellW (j := 6) (by simp)
              have c7 : wr.cell? ⟨W2.heap.size + 1 + 1, 7, none⟩ = some (.int .u32 (u h)) := r5.cellW (j := 7) (by simp)
              have f5 := fun j => r5.frozen j
              have ht0 : (0 : Int) ≤ (t : Int) ∧ (t : Int) < 64 := by omega
              clear he
              have hx1 := bx (rr e 6) (rr e 11)
              have hx2 : bits .xor .u32 (u (xr (rr e 6) (rr e 11))) (u (rr e 25)) = u (S1 e) := bx _ _
              have hx3 := bx (rr a 2) (rr a 13)
              have hx4 : bits .xor .u32 (u (xr (rr a 2) (rr a 13))) (u (rr a 22)) = u (S0 a) := bx _ _
              have hb1 := ba e f
              have hb2 := bnot e
              have hb3 := ba (nt e) g
              have hb4 : bits .xor .u32 (u (an e f)) (u (an (nt e) g)) = u (ch e f g) := bx _ _
              have hb5 := ba a b'
              have hb6 := ba a c
              have hb7 := bx (an a b') (an a c)
              have hb8 := ba b' c
              have hb9 : bits .xor .u32 (u (xr (an a b') (an a c))) (u (an b' c)) = u (maj a b' c) := bx _ _
              have hp1 := waddw h (S1 e)
              have hp2 := waddw (ad h (S1 e)) (ch e f g)
              have hp3 := waddw (ad (ad h (S1 e)) (ch e f g)) x
              have hp4 := waddw (ad (ad (ad h (S1 e)) (ch e f g)) x) y
              have hp5 : IntKind.u32.wrap (u (S0 a) + u (maj a b' c)) = u (T2 a b' c) := waddw _ _
              go_wp2
              go_quiet ((go_at_call 128; exact Calls.quiet_of (refTurn_any _ _ _ (by omega) (by omega))))
              obtain ⟨wq, hwq⟩ : ∃ wq, wq = wr.drewN nq := ⟨_, rfl⟩
              rw [← hwq]
              have d0 : wq.cell? ⟨W2.heap.size + 1 + 1, 0, none⟩ = some (.int .u32 (u a)) := by rw [hwq]; exact c0
              have d1 : wq.cell? ⟨W2.heap.size + 1 + 1, 1, none⟩ = some (.int .u32 (u b')) := by rw [hwq]; exact c1
              have d2 : wq.cell? ⟨W2.heap.size + 1 + 1, 2, none⟩ = some (.int .u32 (u c)) := by rw [hwq]; exact c2
              have d3 : wq.cell? ⟨W2.heap.size + 1 + 1, 3, none⟩ = some (.int .u32 (u d)) := by rw [hwq]; exact c3
              have d4 : wq.cell? ⟨W2.heap.size + 1 + 1, 4, none⟩ = some (.int .u32 (u e)) := by rw [hwq]; exact c4
              have d5 : wq.cell? ⟨W2.heap.size + 1 + 1, 5, none⟩ = some (.int .u32 (u f)) := by rw [hwq]; exact c5
              have d6 : wq.cell? ⟨W2.heap.size + 1 + 1, 6, none⟩ = some (.int .u32 (u g)) := by rw [hwq]; exact c6
              have d7 : wq.cell? ⟨W2.heap.size + 1 + 1, 7, none⟩ = some (.int .u32 (u h)) := by rw [hwq]; exact c7
              have g5 : ∀ j, wq.frozen? ⟨W2.heap.size + 1 + 1, j, none⟩ = false := fun j => by rw [hwq]; exact f5 j
              have R0 : Row wq w.heap.size 177 (ws s) := by rw [hwq]; exact r0
              have R2 : Row wq (w.heap.size + 1 + 1) 177 (ws (List.replicate 8 0)) := by rw [hwq]; exact r2
              have R3 : Row wq (w.heap.size + 1 + 1 + 1) 180 (ws (sched b)) := by rw [hwq]; exact r3
              have R4 : Row wq (W2.heap.size + 1) 180 (ws KW) := by rw [hwq]; exact r4
              have R5 : Row wq (W2.heap.size + 1 + 1) 177 (ws [a, b', c, d, e, f, g, h]) := by rw [hwq]; exact r5
              have RB : Below w.heap.size w wq := by rw [hwq]; exact below_drewN hbel nq
              clear hwq c0 c1 c2 c3 c4 c5 c6 c7 f5 ck cw r0 r2 r3 r4 r5 hbel
              go_wp2
              go_quiet ((go_at_call 128; exact Calls.quiet_of (refTurn_any _ _ _ (by omega) (by omega))))
              have hp6 := wadd (ad (ad (ad (ad h (S1 e)) (ch e f g)) x) y) (T2 a b' c)
              have hp7 := wadd d (ad (ad (ad (ad h (S1 e)) (ch e f g)) x) y)
              go_wp2
              go_roundw
              case rel =>
                refine ⟨t + 1, by omega, by go_num, put8_other R0 (by omega) _ _ _ _ _ _ _ _, put8_other R2 (by omega) _ _ _ _ _ _ _ _, put8_other R3 (by omega) _ _ _ _ _ _ _ _, put8_other R4 (by omega) _ _ _ _ _ _ _ _, ?_, put8_below (below_drewN RB _) (by omega) _ _ _ _ _ _ _ _⟩
                rw [HE.out]
                exact put8_row R5 (by rw [ws_size]; rfl) _ _ _ _ _ _ _ _
              case measure => simp [intOf]; omega
            · have hd3 : decide ((t : Int) < 64) = false := by simp; omega
              rw [show t = 64 by omega] at r5
              have hn : Hid ((roundsTo s KW (sched b) 64).length = 8) := roundsTo_length s KW (sched b) HS.out 64
              have HF : Hid (furtherL s KW b = sumS (roundsTo s KW (sched b) 64) s) := show furtherL s KW b = _ by unfold furtherL; exact sumS_comm _ _
              generalize roundsTo s KW (sched b) 64 = n at *
              clear r3 r4
              go_wp2
              go_loopw [17] (fun i w4 => ∃ t : Nat, t ≤ 8 ∧ i = .int .i64 t ∧ Row w4 w.heap.size 177 (ws s) ∧ Row w4 (w.heap.size + 1 + 1) 177 (ws (List.replicate 8 0)) ∧ Row w4 (W2.heap.size + 1 + 1) 177 (ws (mix (sumS n s) n t)) ∧ Below w.heap.size w w4)
                (fun i _ => 8 - (intOf i).toNat)
              case atStart => exact ⟨0, by omega, rfl, r0, r2, by rw [mix_zero]; exact r5, hbel⟩
              case round =>
                clear r0 r2 r5 hbel
                obtain ⟨i, hi, rfl, r0, r2, r5, hbel⟩ := hrel
                by_cases hlt : i < 8
                · have c5 := r5.cellW (j := i) (by rw [mix_length _ _ i 8 (sumS_length n s) hn.out hi]; exact hlt)
                  rw [gw_mix _ _ i 8 (sumS_length n s) hlt] at c5
                  have c0 := r0.cellW (j := i) (by rw [HS.out]; exact hlt)
                  have f5 := r5.frozen i
                  have hst : Hid ((mix (sumS n s) n i).set i (ad (gw n i) (gw s i)) = mix (sumS n s) n (i + 1)) := mix_set _ _ i 8 (sumS_length n s) hn.out hlt _ (sumS_get n s i hlt)
                  generalize gw s i = x at *
                  generalize gw n i = y at *
                  have hp := wadd y x
                  have hi0 : (0 : Int) ≤ (i : Int) ∧ (i : Int) < 8 := by omega
                  go_wp2
                  go_region
                  all_goals go_wp2
                  all_goals
                    go_roundw
                    case rel =>
                      refine ⟨i + 1, by omega, by go_num, r0.other (by show w.heap.size ≠ W2.heap.size + 1 + 1; omega) _, r2.other (by show w.heap.size + 1 + 1 ≠ W2.heap.size + 1 + 1; omega) _, ?_, (hbel.setCell (p := ⟨W2.heap.size + 1 + 1, i, none⟩) (by show w.heap.size ≤ W2.heap.size + 1 + 1; omega) _).drew⟩
                      have := r5.set i (.int .u32 (u (ad y x)))
                      rw [ws_set, hst.out] at this
                      exact this
                    case measure => simp [intOf]; omega
                · rw [show i = 8 by omega, mix_all _ _ 8 (sumS_length n s) hn.out, ← HF.out] at r5
                  go_wp2_with (first
                    | (with_reducible (show wpList _ _ _ (⟨_, Op.load 177 _, _, _, _, _⟩ :: _) _ _)
                       refine load_row rfl 177 _ rfl (W2.heap.size + 1 + 1) rfl _ _ r5 8 176 Tryd.underlying177 (by kernel_rfl) (by rw [ws_size, furtherL_length]) ?_)
                    | (with_reducible (show wpList _ _ _ (⟨_, Op.store 177 _ _, _, _, _, _⟩ :: _) _ _)
                       refine store_row rfl 177 _ _ rfl (w.heap.size + 1 + 1) (ws (furtherL s KW b)) rfl rfl _ _ r2 8 (by kernel_rfl) (by rw [ws_size, List.length_replicate]) (by rw [ws_size, furtherL_length]) (ws_one _) ?_))
                  refine bodyPost_ret (result_row rfl _ _ (w.heap.size + 1 + 1) _ _ (r2.put _) 8 176 rfl Tryd.underlying177 (by kernel_rfl) (by rw [ws_size, furtherL_length])) rfl ⟨rfl, bSetRow hbel (by omega) _⟩
end Go.Proofs.YtjccjlhnjihfjaaDoor

/-! The words of a block, one after another; operations behind a guard that holds. -/
namespace Go.Proofs.YtjccjlhnjihfjaaDoor
open Go Go.RowKit

section
variable {P : Program} {ops : Array Oper} {rest : List Oper} {o : Oper} {a : Act} {w : World} {Q : Exit → Act → World → Prop}
theorem wpList_wanted (hw : Region.wanted o (yielded ops a.tmps) = true)
    (h : ∀ K : Act → World → Prop, (∀ a w, wpList P ops Q rest a w → K a w) → o.wp P a w K Q) : wpList P ops Q (o :: rest) a w :=
  wpList_step fun K hK => by rw [hw, if_pos rfl]; exact h K hK
theorem value_G (hgd : Region.wanted o (yielded ops a.tmps) = true) (v : Value) (hv : (execOp a.eval o).run P w = .ok (.value v) w)
    (h : wpList P ops Q rest (a.put o.dst v) w) : wpList P ops Q (o :: rest) a w :=
  wpList_wanted hgd fun _ hK => by unfold Oper.wp; rw [hv, Oper.upon_value]; exact hK _ _ h
end
end Go.Proofs.YtjccjlhnjihfjaaDoor

/-! What mailcoachref02.Sum answers for what it takes. -/
namespace Go.Proofs.YtjccjlhnjihfjaaDoor
open Go Go.RowKit

set_option maxRecDepth 20000 in
set_option maxHeartbeats 1000000 in
theorem refSum_any (g off : Nat) (a : Option Addr) (len cap : Nat) (b : List By) (w : World) (hb : b.length = len) (hl : len ≤ 1048576) (hn : a = none → len = 0 ∧ cap = 0) (ha : 0 < len → a = some ⟨g, off, none⟩) (hgl : 0 < len → g < w.heap.size) (hc : ∀ j : Nat, j < len → w.cell? ⟨g, off + j, none⟩ = some (.int .u8 (v8 (gb b j)))) :
    Calls Tryd.prog 113 #[.slice a len cap] w fun e w' => e = .returned (.tuple #[.agg (bs (sumL b)), .int .i64 0]) ∧ Below w.heap.size w w' := by
  have HB := veil hb
  have HA := veil ha
  have HN := veil hn
  have HGL := veil hgl
  have HC := veil hc
  clear hb ha hgl hc hn
  have hgt : ¬ ((1048576 : Int) < (len : Int)) := by omega
  go_enter Tryd.func113, Tryd.ntmps113
  go_wp2_with (with_reducible (show wpList _ _ _ (⟨_, Op.alloc 23, _, _, _, _⟩ :: _) _ _)
               refine alloc_row rfl 23 rfl (bs z32) (by kernel_rfl) ?_)
  refine (padded_any g off a len cap b (w.alloc (.cells (bs z32) 23)) HB.out hl HN.out HA.out (fun j hj => (((Below.refl _ w).alloc (Nat.le_refl _) _).cell (p := ⟨g, off + j, none⟩) (HGL.out (by omega))).trans (HC.out j hj))).mono ?_
  rintro e1 w1 ⟨g1, c1, rfl, ho1, hb1⟩
  have q0 : Row w1 w.heap.size 23 (bs z32) := Row.below (Row.new _ _ _) hb1 (by simp)
  have hbel1 : Below w.heap.size w w1 := ((Below.refl _ w).alloc (Nat.le_refl _) _).trans (hb1.mono (by simp))
  have hlo1 := ho1.lt
  rw [World.size_alloc] at hlo1 ho1
  have HO1 := veil ho1
  clear hb1 ho1
  obtain ⟨N, hN⟩ : ∃ N, N = 64 * nb b := ⟨_, rfl⟩
  rw [← hN] at HO1 ⊢
  have hNl : N ≤ 1048700 := by
    have := padL_length b
    have h2 := nb_mul b
    have h3 := padZ_le b.length
    have := HB.out
    omega
  have HNN := veil hN
  have hs1 := hbel1.size
  have hq0 := q0.lt
  clear hN
  go_wp2_with fail
  refine (refBegin_any w1).mono ?_
  rintro e7 w7 ⟨rfl, hw⟩
  rw [hw]
  clear hw w7
  go_wp2_with (first
    | (with_reducible (show wpList _ _ _ (⟨_, Op.store 177 _ _, _, _, _, _⟩ :: _) _ _)
       refine store_new (w := w1.alloc (.cells (ws HW) 177)) rfl 177 _ _ rfl (w1.heap.size + 1) (ws HW) rfl rfl _ _ (by simp) 8 (by kernel_rfl) (by rfl) (by rw [ws_size, HW_length]) (ws_one _) ?_))
  have HO7 : Hid (OwnB ((w1.alloc (.cells (ws HW) 177)).alloc (.cells (ws HW) 177)) (w.heap.size + 1) g1 N c1 (padL b)) := HO1.out.below (((Below.refl _ w1).alloc (Nat.le_refl _) _).alloc (by simp) _)
  go_loopw [6] (fun v wr => ∃ i A : Nat, i ≤ nb b ∧ A = 64 * i ∧ v = .int .i64 (A : Int) ∧ Row wr w.heap.size 23 (bs z32) ∧ Row wr (w1.heap.size + 1) 177 (ws (chain HW (blkTo b i))) ∧ OwnB wr (w.heap.size + 1) g1 N c1 (padL b) ∧ Below w.heap.size w wr)
    (fun v _ => N - (intOf v).toNat)
  case atStart => exact ⟨0, 0, Nat.zero_le _, rfl, rfl, (q0.alloc _).alloc _, Row.new1 _ _ _ _, HO7.out, (hbel1.alloc hbel1.size _).alloc (by simp; omega) _⟩
  case round =>
    clear HO7 HO1 hbel1 q0
    obtain ⟨i, A, hiN, hA, rfl, r0, rS, ho, hbel⟩ := hrel
    have hcl := veil (chain_length HW HW_length (blkTo b i))
    have hsz := hbel.size
    have hrS := rS.lt
    have hr0 := r0.lt
    by_cases hlt : i < nb b
    · have hAN : A + 64 ≤ N := by have := HNN.out; omega
      have HI := veil hlt
      have HAi := veil hA
      have HBk := veil (blkAt_take b i hlt)
      have hbk := veil (blkAt b i).2
      have HO := veil ho
      have HS := veil rS
      have H0 := veil r0
      have HBl := veil hbel
      have hAN' : (A : Int) < (N : Int) := by omega
      have hg3 := ho.lt.2
      generalize wr = W3 at *
      clear hA hlt ho rS hbel hiN r0
      go_wp2_with (first
        | (with_reducible (show wpList _ _ _ (⟨_, Op.alloc 162, _, _, _, _⟩ :: _) _ _)
           refine alloc_row rfl 162 rfl (bs zB) (by kernel_rfl) ?_))
      go_loopw [8] (fun v w4 => ∃ j : Nat, j ≤ 64 ∧ v = .int .i64 (j : Int) ∧ Row w4 W3.heap.size 162 (bs ((blkAt b i).1.take j ++ List.replicate (64 - j) 0)) ∧ Row w4 w.heap.size 23 (bs z32) ∧ Row w4 (w1.heap.size + 1) 177 (ws (chain HW (blkTo b i))) ∧ OwnB w4 (w.heap.size + 1) g1 N c1 (padL b) ∧ Below w.heap.size w w4)
        (fun v _ => 64 - (intOf v).toNat)
      case atStart => exact ⟨0, Nat.zero_le _, rfl, Row.new _ _ _, H0.out.alloc _, HS.out.alloc _, HO.out.below ((Below.refl _ _).alloc (Nat.le_refl _) _), HBl.out.alloc HBl.out.size _⟩
      case round =>
        clear HS HO HBl H0
        obtain ⟨j, hj, rfl, rB, r0, rS, ho, hbel⟩ := hrel
        have hlo := ho.lt
        by_cases hj64 : j < 64
        · have cb := ho.cell (j := A + j) (by omega)
          have hgb : (blkAt b i).1[j]? = some (gb (padL b) (A + j)) := by
            rw [HBk.out, ← HAi.out, List.getElem?_take_of_lt hj64, List.getElem?_drop]
            unfold gb
            rw [List.getElem?_eq_getElem (by rw [ho.len]; omega)]
            rfl
          have hst := veil (fill_set2 (blkAt b i).1 0 j 64 (by rw [hbk.out]; exact hj64) hj64 _ hgb)
          obtain ⟨v, hv⟩ : ∃ v, wr.cell? ⟨W3.heap.size, j, none⟩ = some v := ⟨_, rB.cellB (by simp [hbk.out]; omega)⟩
          have fB := rB.frozen j
          clear hgb
          generalize gb (padL b) (A + j) = x at *
          have hw1 : IntKind.i64.wrap ((A : Int) + (j : Int)) = (A : Int) + (j : Int) := by rw [IntKind.wrap_i64]; omega
          have hq1 : ((A : Int) + (j : Int)).toNat = A + j := by omega
          have hl1 : (0 : Int) ≤ (A : Int) + (j : Int) ∧ (A : Int) + (j : Int) < (N : Int) := by omega
          have hl2 : (0 : Int) ≤ (j : Int) ∧ (j : Int) < 64 := by omega
          have HO := veil ho
          clear ho
          go_wp2
          refine ⟨⟨j + 1, by omega, by go_num, ?_, r0.other (by show w.heap.size ≠ W3.heap.size; omega) _, rS.other (by show w1.heap.size + 1 ≠ W3.heap.size; omega) _, HO.out.other (by omega) _ _, hbel.setCell (p := ⟨W3.heap.size, j, none⟩) (by show w.heap.size ≤ W3.heap.size; omega) _⟩, by simp only [intOf]; omega⟩
          have := rB.set j (.int .u8 (v8 x))
          rw [bs_set, hst.out] at this
          exact this
        · obtain rfl : j = 64 := by omega
          rw [List.take_of_length_le (by rw [hbk.out]; exact Nat.le_refl _), Nat.sub_self, List.replicate_zero, List.append_nil] at rB
          have HO := veil ho
          clear ho
          generalize wr = W4 at *
          go_wp2_with (first
            | (with_reducible (show wpList _ _ _ (⟨_, Op.load 177 _, _, _, _, _⟩ :: _) _ _)
               refine load_row rfl 177 _ rfl (w1.heap.size + 1) rfl _ _ rS 8 176 Tryd.underlying177 (by kernel_rfl) (by rw [ws_size, hcl.out]) ?_)
            | (with_reducible (show wpList _ _ _ (⟨_, Op.load 162 _, _, _, _, _⟩ :: _) _ _)
               refine load_row rfl 162 _ rfl W3.heap.size rfl _ _ rB 64 5 Tryd.underlying162 (by kernel_rfl) (by rw [bs_size, hbk.out]) ?_))
          refine (refBlock_any (chain HW (blkTo b i)) (blkAt b i).1 hcl.out hbk.out W4).mono ?_
          rintro e5 w5 ⟨rfl, hb5⟩
          have k5 := rS.below hb5 rS.lt
          have k0 := r0.below hb5 r0.lt
          have HO5 := veil (HO.out.below hb5)
          have HB5 := veil (hbel.trans (hb5.mono hbel.size))
          clear hb5 HO hbel rS rB r0
          have hb64 : IntKind.i64.wrap ((A : Int) + 64) = (A : Int) + 64 := by rw [IntKind.wrap_i64]; omega
          go_wp2_with (first
            | (with_reducible (show wpList _ _ _ (⟨_, Op.store 177 _ _, _, _, _, _⟩ :: _) _ _)
               refine store_row rfl 177 _ _ rfl (w1.heap.size + 1) (ws (furtherL (chain HW (blkTo b i)) KW (blkAt b i).1)) rfl rfl _ _ k5 8 (by kernel_rfl) (by rw [ws_size, hcl.out]) (by rw [ws_size, furtherL_length]) (ws_one _) ?_))
          refine ⟨⟨i + 1, A + 64, by have := HI.out; omega, by have := HAi.out; omega, by go_num, k0.putOther (by omega) _, ?_, HO5.out.putOther (by omega) _, bSetRow HB5.out (by omega) _⟩, by simp only [intOf]; omega⟩
          rw [blkTo_succ, chain_snoc]
          exact k5.put _
    · have hi : i = nb b := by omega
      subst hi
      have hAN : A = N := by have := HNN.out; omega
      subst hAN
      generalize wr = W3 at *
      clear ho hlt hA
      have HSum : Hid (sumL b = sumB (chain HW (blkTo b (nb b)))) := rfl
      generalize chain HW (blkTo b (nb b)) = S at *
      go_wp2_with (first
        | (with_reducible (show wpList _ _ _ (⟨_, Op.alloc 23, _, _, _, _⟩ :: _) _ _)
           refine alloc_row rfl 23 rfl (bs z32) (by kernel_rfl) ?_))
      go_loopw [10] (fun v wr => ∃ j : Nat, j ≤ 32 ∧ v = .int .i64 (j : Int) ∧ Row wr W3.heap.size 23 (bs ((sumB S).take j ++ List.replicate (32 - j) 0)) ∧ Row wr w.heap.size 23 (bs z32) ∧ Row wr (w1.heap.size + 1) 177 (ws S) ∧ Below w.heap.size w wr)
        (fun v _ => 32 - (intOf v).toNat)
      case atStart => exact ⟨0, Nat.zero_le _, rfl, Row.new _ _ _, r0.alloc _, rS.alloc _, hbel.alloc hbel.size _⟩
      case round =>
        clear rS r0 hbel
        obtain ⟨j, hj, rfl, rT, r0, rS, hbel⟩ := hrel
        by_cases hlt : j < 32
        · obtain ⟨q, r, hr, rfl⟩ : ∃ q r, r < 4 ∧ j = 4 * q + r := ⟨j / 4, j % 4, by omega, by omega⟩
          have c0 := rS.cellW (j := q) (by rw [hcl.out]; omega)
          have hu0 := u_nn (gw S q)
          have hu1 := u_le (gw S q)
          obtain ⟨v, hv⟩ : ∃ v, wr.cell? ⟨W3.heap.size, 4 * q + r, none⟩ = some v := ⟨_, rT.cellB (by simp [sumB_length]; omega)⟩
          have f2 := rT.frozen (4 * q + r)
          have e1 : (4 * (q : Int) + (r : Int)) / 4 = (q : Int) := by omega
          have e2 : (4 * (q : Int) + (r : Int)) % 4 = (r : Int) := by omega
          go_wp2
          go_roundw
          case rel =>
            have ew : u (gw S q) / 2 ^ (24 - 8 * r) % 256 = v8 (byteOf (gw S q) r) := by rw [wsr]; exact v8_byteOf _ _
            rw [ew]
            refine ⟨4 * q + r + 1, by omega, by go_num, ?_, r0.other (by show w.heap.size ≠ W3.heap.size; omega) _, rS.other (by show w1.heap.size + 1 ≠ W3.heap.size; omega) _, hbel.setCell (p := ⟨W3.heap.size, 4 * q + r, none⟩) (by show w.heap.size ≤ W3.heap.size; omega) _⟩
            have := rT.set (4 * q + r) (.int .u8 (v8 (byteOf (gw S q) r)))
            rw [bs_set, fill_set (sumB S) 0 (4 * q + r) 32 (sumB_length S) hlt _ (by rw [sumB_get S _ hlt, show (4 * q + r) / 4 = q by omega, show (4 * q + r) % 4 = r by omega])] at this
            exact this
          case measure => simp [intOf]; omega
        · obtain rfl : j = 32 := by omega
          have r3 : Row wr W3.heap.size 23 (bs (sumB S)) := by
            have := rT
            rw [List.take_of_length_le (by rw [sumB_length]; omega)] at this
            simpa using this
          clear rT
          go_wp2_with (first
            | (with_reducible (show wpList _ _ _ (⟨_, Op.load 23 _, _, _, _, _⟩ :: _) _ _)
               refine load_row rfl 23 _ rfl W3.heap.size rfl _ _ r3 32 5 Tryd.underlying23 (by kernel_rfl) (by rw [bs_size, sumB_length]) ?_)
            | (with_reducible (show wpList _ _ _ (⟨_, Op.store 23 _ _, _, _, _, _⟩ :: _) _ _)
               refine store_row rfl 23 _ _ rfl w.heap.size (bs (sumB S)) rfl rfl _ _ r0 32 (by kernel_rfl) (by rfl) (by rw [bs_size, sumB_length]) (bs_one _) ?_))
          refine bodyPost_ret (result_row_tmp rfl _ _ w.heap.size _ _ (r0.put _) 32 5 (.int .i64 0) rfl rfl Tryd.underlying23 (by kernel_rfl) (by rw [bs_size, sumB_length])) rfl ⟨by rw [HSum.out], bSetRow hbel (Nat.le_refl _) _⟩
end Go.Proofs.YtjccjlhnjihfjaaDoor
