/-
  Out of PkBared, PkOpenV, PkLives.
-/
import Derived.Test.YtbheoldakmcppaaGreatDoorGs25
import Derived.Test.YtbheoldakmcppaaGreatDoorGs12

/-! The document's packet, bared. Written by mkbared.py. -/
namespace Go.Proofs.YtbheoldakmcppaaGreatDoor
open Go Go.RowKit

def depB : Nat → List Nat
  | 1 => [0]
  | 3 => [2]
  | 4 => [1, 3]
  | 6 => [4, 5]
  | 7 => [6]
  | 8 => [7]
  | 9 => [7]
  | 10 => [8]
  | 11 => [9]
  | _ => []
def valB13 (k : KS) (g cap F : Nat) (c : SL) (B : List By) (S : Nat) : Nat → World → Value → Prop
  | 0, _, u => u = .pointer (some ⟨F, 0, none⟩)
  | 1, _, u => u = .slice (some ⟨g, 0, none⟩) 21 cap
  | 2, _, u => u = .pointer (some ⟨F, 3, none⟩)
  | 3, _, u => u = .int .i64 1
  | 4, _, u => u = .slice c.a c.len c.cap
  | 5, _, u => u = .agg k.cells
  | 6, W, u => ∃ g, u = .tuple #[.slice (some ⟨g, 0, none⟩) 5 5, .int .i64 0] ∧ S ≤ g ∧ Row W g 187 (bs B)
  | 7, W, u => ∃ g, u = .tuple #[.slice (some ⟨g, 0, none⟩) 5 5, .int .i64 0] ∧ S ≤ g ∧ Row W g 187 (bs B)
  | 8, W, u => ∃ g, u = .slice (some ⟨g, 0, none⟩) 5 5 ∧ S ≤ g ∧ Row W g 187 (bs B)
  | 9, _, u => u = .int .i64 0
  | 10, W, u => ∃ g, u = .slice (some ⟨g, 0, none⟩) 5 5 ∧ S ≤ g ∧ Row W g 187 (bs B)
  | 11, _, u => u = .int .i64 0
  | _, _, _ => True
theorem valB13_mono {k : KS} {g cap F : Nat} {c : SL} {B : List By} {S : Nat} : ∀ (j : Nat) (W W' : World) (u : Value), Below W.heap.size W W' → valB13 k g cap F c B S j W u → valB13 k g cap F c B S j W' u
  | 0, _, _, _, _, h => h
  | 1, _, _, _, _, h => h
  | 2, _, _, _, _, h => h
  | 3, _, _, _, _, h => h
  | 4, _, _, _, _, h => h
  | 5, _, _, _, _, h => h
  | 6, _, _, _, hb, ⟨g, h1, h2, h3⟩ => ⟨g, h1, h2, h3.below hb h3.lt⟩
  | 7, _, _, _, hb, ⟨g, h1, h2, h3⟩ => ⟨g, h1, h2, h3.below hb h3.lt⟩
  | 8, _, _, _, hb, ⟨g, h1, h2, h3⟩ => ⟨g, h1, h2, h3.below hb h3.lt⟩
  | 9, _, _, _, _, h => h
  | 10, _, _, _, hb, ⟨g, h1, h2, h3⟩ => ⟨g, h1, h2, h3.below hb h3.lt⟩
  | 11, _, _, _, _, h => h
  | _ + 12, _, _, _, _, _ => trivial
theorem samp_v13 : samp4 (packV13.drop 1) = sampV := by decide +kernel
theorem cov_v13 (MB : List By) (h : MB.take 5 = maskV12) : covTo [76, 254, 65, 137] 1 3 (covB (longB (gb [76, 254, 65, 137] 0))) MB = headV13 := by
  rw [← covTo_take _ _ _ _ _ (by decide), h]
  decide +kernel
/-- The boxes of a call of bared. -/
structure BarW (g cap : Nat) (k : KS) (w W : World) : Prop where
  bel : Below w.heap.size w W
  rf : Row W w.heap.size 175 (foundV g cap)
  rk : Row W (w.heap.size + 1) 27 k.cells
  hb : (⟨some ⟨g, 0, none⟩, 21, cap, g, 0, packV13⟩ : SL).Ok W
  hk : k.Ok W
  hg : Glob W
theorem BarW.below {g cap : Nat} {k : KS} {w W W' : World} (s : BarW g cap k w W) (hb : Below W.heap.size W W') : BarW g cap k w W' :=
  ⟨s.bel.trans (hb.mono s.bel.size), s.rf.below hb s.rf.lt, s.rk.below hb s.rk.lt, s.hb.below hb, s.hk.below hb, s.hg.below hb (Nat.le_refl _)⟩
theorem BarW.start (g cap : Nat) (k : KS) (w : World) (hb : (⟨some ⟨g, 0, none⟩, 21, cap, g, 0, packV13⟩ : SL).Ok w) (hk : k.Ok w) (hg : Glob w) : BarW g cap k w ((w.alloc (.cells (foundV g cap) 175)).alloc (.cells k.cells 27)) := by
  have b0 : Below w.heap.size w ((w.alloc (.cells (foundV g cap) 175)).alloc (.cells k.cells 27)) := ((Below.refl _ w).alloc (Nat.le_refl _) _).alloc (by simp) _
  have e : (w.alloc (.cells (foundV g cap) 175)).heap.size = w.heap.size + 1 := by simp
  refine ⟨b0, (Row.new _ _ _).alloc _, ?_, hb.below b0, hk.below b0, hg.below b0 (Nat.le_refl _)⟩
  rw [← e]
  exact Row.new _ _ _

set_option maxRecDepth 20000 in
set_option maxHeartbeats 1000000 in
theorem bared_v13 (g cap : Nat) (k : KS) (w : World) (hg : Glob w) (hb : (⟨some ⟨g, 0, none⟩, 21, cap, g, 0, packV13⟩ : SL).Ok w) (hk : k.Ok w) (hml : k.mask.len = 32) (hmb : k.mask.b = hpV12) :
    Calls Tryz.prog 112 #[.agg (foundV g cap), .agg k.cells] w fun e w' => ∃ gh ch, e = .returned (.tuple #[.slice (some ⟨gh, 0, none⟩) 4 ch, .int .i64 0]) ∧ w'.ownsRow w.heap.size 5 1 (.slice (some ⟨gh, 0, none⟩) 4 ch) 4 (vb headV13) ∧ Below w.heap.size w w' := by
  have S0 := veil (BarW.start g cap k w hb hk hg)
  have HML := veil hml
  have HMB := veil hmb
  obtain ⟨c, hcut, ⟨hcl, hcb⟩, hcok, _⟩ := cut_lo ⟨some ⟨g, 0, none⟩, 21, cap, g, 0, packV13⟩ w hb 1 (by show 1 ≤ 21; decide)
  have HCL := veil (show 20 ≤ c.len by have : c.len = 21 - 1 := hcl; omega)
  have HCB := veil (show c.b = packV13.drop 1 from hcb)
  have HCU := veil hcut
  have HCOK := veil hcok
  have hcap : 21 ≤ cap := hb.hcap
  clear hg hb hk hml hmb hcut hcl hcb hcok
  go_enter Tryz.func112, Tryz.ntmps112
  go_wp2_with fail
  generalize (w.alloc (.cells (foundV g cap) 175)).alloc (.cells k.cells 27) = w0 at *
  refine (wpIn_wide (n := 4)).1 ?_
  refine wpIn_region_any (by kernel_rfl) ?_
  refine anyIn_genS (w0 := w0) (valB13 k g cap w.heap.size c (blockL k.mask.b (countL (samp4 c.b)) ((samp4 c.b).drop 4)) w0.heap.size) valB13_mono [11, 12, 13, 14, 15, 16, 17, 10, 18, 19, 6, 7] depB (by kernel_rfl) rfl (by decide) ((Below.refl _ _).drew) ?step ?done
  case step =>
    intro x W i e hW hdi hdep
    match i, hdi, hdep with
    | 0, hdi, _ =>
      obtain rfl := Option.some.inj hdi
      exact OI_value rfl rfl (about_none (by intro c h; cases h)) (by intro c h; cases h) (.pointer (some ⟨w.heap.size, 0, none⟩)) W (by kernel_rfl) ⟨_, rfl, Below.refl _ _, rfl⟩
    | 1, hdi, hdep =>
      obtain rfl := Option.some.inj hdi
      rw [updV_self (show x 0 = _ from hdep 0 (by simp [depB]))]
      exact OI_value rfl rfl (about_none (by intro c h; cases h)) (by intro c h; cases h) (.slice (some ⟨g, 0, none⟩) 21 cap) W (run_cell 22 _ ⟨w.heap.size, 0, none⟩ _ _ rfl (by kernel_rfl) Tryz.underlying22 rfl W ((S0.out.rf.below hW S0.out.rf.lt).cell 0)) ⟨_, rfl, Below.refl _ _, rfl⟩
    | 2, hdi, _ =>
      obtain rfl := Option.some.inj hdi
      exact OI_value rfl rfl (about_none (by intro c h; cases h)) (by intro c h; cases h) (.pointer (some ⟨w.heap.size, 3, none⟩)) W (by kernel_rfl) ⟨_, rfl, Below.refl _ _, rfl⟩
    | 3, hdi, hdep =>
      obtain rfl := Option.some.inj hdi
      rw [updV_self (show x 2 = _ from hdep 2 (by simp [depB]))]
      exact OI_value rfl rfl (about_none (by intro c h; cases h)) (by intro c h; cases h) (.int .i64 1) W (run_cell 3 _ ⟨w.heap.size, 3, none⟩ _ _ rfl (by kernel_rfl) Tryz.underlying3 rfl W ((S0.out.rf.below hW S0.out.rf.lt).cell 3)) ⟨_, rfl, Below.refl _ _, rfl⟩
    | 4, hdi, hdep =>
      obtain rfl := Option.some.inj hdi
      rw [updV_self (show x 1 = _ from hdep 1 (by simp [depB])), updV_self (show (updV x 1 _) 3 = _ from hdep 3 (by simp [depB]))]
      exact OI_value rfl rfl (about_none (by intro c h; cases h)) (by intro c h; cases h) (.slice c.a c.len c.cap) W (run_sliceOp _ _ _ _ _ rfl _ _ _ _ (by kernel_rfl) (by kernel_rfl) (by kernel_rfl) (by kernel_rfl) _ W (HCU.out W)) ⟨_, rfl, Below.refl _ _, rfl⟩
    | 5, hdi, _ =>
      obtain rfl := Option.some.inj hdi
      exact OI_value rfl rfl (about_none (by intro c h; cases h)) (by intro c h; cases h) (.agg k.cells) W (run_load_st 27 _ rfl (w.heap.size + 1) (by kernel_rfl) 27 k.cells 3 _ Tryz.underlying27 (by kernel_rfl) rfl W (S0.out.rk.below hW S0.out.rk.lt)) ⟨_, rfl, Below.refl _ _, rfl⟩
    | 6, hdi, hdep =>
      obtain rfl := Option.some.inj hdi
      rw [updV_self (show x 4 = _ from hdep 4 (by simp [depB])), updV_self (show updV x 4 _ 5 = _ from hdep 5 (by simp [depB]))]
      refine OI_call rfl rfl (by intro c h; cases h) 24 #[.slice c.a c.len c.cap, .agg k.cells] (fun _ _ => trivial) (by kernel_rfl) (by decide) ?_
      refine (callsIn_wide.2 (maskOf_any c k W (S0.out.hg.below hW (Nat.le_refl _)) ((HCOK.out _ S0.out.hb).below hW) (S0.out.hk.below hW) HCL.out HML.out)).mono ?_
      rintro e w' ⟨gm, rfl, hgl, rg, hb'⟩
      exact ⟨_, rfl, _, rfl, hb', ⟨gm, rfl, Nat.le_trans hW.size hgl, rg⟩⟩
    | 7, hdi, hdep =>
      obtain rfl := Option.some.inj hdi
      obtain ⟨gm, e4, h1, h2⟩ := hdep 6 (by simp [depB])
      rw [updV_self (show x 6 = _ from e4)]
      exact OI_value rfl rfl (about_none (by intro c h; cases h)) (by intro c h; cases h) (.tuple #[.slice (some ⟨gm, 0, none⟩) 5 5, .int .i64 0]) W (by kernel_rfl) ⟨_, rfl, Below.refl _ _, ⟨gm, rfl, h1, h2⟩⟩
    | 8, hdi, hdep =>
      obtain rfl := Option.some.inj hdi
      obtain ⟨gm, e4, h1, h2⟩ := hdep 7 (by simp [depB])
      rw [updV_self (show x 7 = _ from e4)]
      exact OI_value rfl rfl (about_none (by intro c h; cases h)) (by intro c h; cases h) (.slice (some ⟨gm, 0, none⟩) 5 5) W (by kernel_rfl) ⟨_, rfl, Below.refl _ _, ⟨gm, rfl, h1, h2⟩⟩
    | 9, hdi, hdep =>
      obtain rfl := Option.some.inj hdi
      obtain ⟨gm, e4, h1, h2⟩ := hdep 7 (by simp [depB])
      rw [updV_self (show x 7 = _ from e4)]
      exact OI_value rfl rfl (about_none (by intro c h; cases h)) (by intro c h; cases h) (.int .i64 0) W (by kernel_rfl) ⟨_, rfl, Below.refl _ _, rfl⟩
    | 10, hdi, hdep =>
      obtain rfl := Option.some.inj hdi
      obtain ⟨gm, e4, h1, h2⟩ := hdep 8 (by simp [depB])
      rw [updV_self (show x 8 = _ from e4)]
      exact OI_value rfl rfl (about_none (by intro c h; cases h)) (by intro c h; cases h) (.slice (some ⟨gm, 0, none⟩) 5 5) W (by kernel_rfl) ⟨_, rfl, Below.refl _ _, ⟨gm, rfl, h1, h2⟩⟩
    | 11, hdi, hdep =>
      obtain rfl := Option.some.inj hdi
      rw [updV_self (show x 9 = _ from hdep 9 (by simp [depB]))]
      exact OI_value rfl rfl (about_none (by intro c h; cases h)) (by intro c h; cases h) (.int .i64 0) W (by kernel_rfl) ⟨_, rfl, Below.refl _ _, rfl⟩
    | _ + 12, hdi, _ => simp at hdi
  case done =>
    intro x W hW hx
    obtain ⟨gm, e10, hgm, rM⟩ := hx 10 (by decide)
    have e11 : x 11 = .int .i64 0 := hx 11 (by decide)
    simp only [putsV, Act.put, List.setIfInBounds_toArray, List.set_cons_succ, List.set_cons_zero, Nat.reduceAdd, e10, e11]
    generalize x 0 = z0, x 1 = z1, x 2 = z2, x 3 = z3, x 4 = z4, x 5 = z5, x 6 = z6, x 7 = z7, x 8 = z8, x 9 = z9
    have S1 := veil (S0.out.below hW)
    obtain ⟨MB, hMB⟩ : ∃ B, blockL k.mask.b (countL (samp4 c.b)) ((samp4 c.b).drop 4) = B := ⟨_, rfl⟩
    rw [hMB] at rM
    have HM5 : Hid (MB.take 5 = maskV12) := by
      have := vec_mask12
      unfold maskL at this
      rw [← hMB, HMB.out, HCB.out, samp_v13]
      exact this
    have HMLn := veil (show MB.length = 64 by rw [← hMB]; exact blockL_length _ _ _)
    have RM := veil rM
    have c0 : W.cell? ⟨w.heap.size, 0, none⟩ = some (.slice (some ⟨g, 0, none⟩) 21 cap) := S1.out.rf.cell 0
    have d0 : W.drew.cell? ⟨w.heap.size, 0, none⟩ = some (.slice (some ⟨g, 0, none⟩) 21 cap) := S1.out.rf.cell 0
    have c3 : W.drew.cell? ⟨w.heap.size, 3, none⟩ = some (.int .i64 1) := S1.out.rf.cell 3
    have cb : W.cell? ⟨g, 0, none⟩ = some (.int .u8 76) := S1.out.hb.cell 0 (by show 0 < 21; decide)
    have db : W.drew.cell? ⟨g, 0, none⟩ = some (.int .u8 76) := S1.out.hb.cell 0 (by show 0 < 21; decide)
    have hm0 : gb MB 0 = 174 := by rw [← gb_take5 MB 0 (by decide), HM5.out]; rfl
    have cm : W.cell? ⟨gm, 0, none⟩ = some (.int .u8 174) := by have := RM.out.cellB (j := 0) (by have := HMLn.out; omega); rw [hm0] at this; exact this
    have dm : W.drew.cell? ⟨gm, 0, none⟩ = some (.int .u8 174) := cm
    have HGM := veil hgm
    clear hx e10 e11 rM hgm hW hMB hm0
    go_wp2_with fail
    go_region
    rw [show wrap64 (wrap64 (bits BinOp.and IntKind.u8 (bits BinOp.xor IntKind.u8 76 174) 3) + 1) = 3 from by decide +kernel]
    have S2 := veil (S1.out.below (Below.refl _ W).drew)
    have RM2 := veil (RM.out.drew)
    clear c0 cb cm dm db RM S1
    generalize W.drew = W2 at *
    have hc4 : 4 ≤ cap := by omega
    go_wp2_with fail
    refine (clone_some ⟨some ⟨g, 0, none⟩, 4, cap, g, 0, packV13.take 4⟩ _ W2 (SL.Ok.head S2.out.hb 4 (by show 4 ≤ 21; decide)) rfl (by show 4 ≤ 1048576; decide)).mono ?_
    rintro e5 w5 ⟨v5, rfl, own5, hb5⟩
    replace own5 : w5.ownsRow W2.heap.size 5 1 v5 4 (vb [76, 254, 65, 137]) := own5
    obtain ⟨gh, ch, rfl, hch⟩ := own_someB own5 (by decide)
    have S5 := veil (S2.out.below hb5)
    have RM5 := veil (RM2.out.below hb5 RM2.out.lt)
    have O5 := veil own5
    have B5 := veil hb5
    have c3' : w5.cell? ⟨w.heap.size, 3, none⟩ = some (.int .i64 1) := S5.out.rf.cell 3
    clear own5 hb5 hch d0 c3
    go_wp2_with fail
    refine (cover_any W2.heap.size gh 4 ch 4 1 3 gm [76, 254, 65, 137] MB w5 O5.out RM5.out HMLn.out (by have := (O5.out.lt gh rfl).1; have := RM2.out.lt; omega) B5.out.size (by decide) rfl (by decide) (by decide) (by decide) (by decide)).mono ?_
    rintro e6 w6 ⟨rfl, hcov⟩
    rw [cov_v13 MB HM5.out] at hcov
    have HCOV := veil hcov
    clear hcov c3'
    go_wp2_with fail
    go_ret2
    exact ⟨gh, ch, rfl, own_low HCOV.out.own S2.out.bel.size, S2.out.bel.trans ((B5.out.trans HCOV.out.bel).mono S2.out.bel.size)⟩
end Go.Proofs.YtbheoldakmcppaaGreatDoor

/-! The document's packet, opened. Written by mkopen13.py. -/
namespace Go.Proofs.YtbheoldakmcppaaGreatDoor
open Go Go.RowKit

abbrev head0 : Array Value := headC false (.slice none 0 0) (.slice none 0 0) 0 false
/-- The boxes of a call of Open. -/
structure OpW (g cap : Nat) (k : KS) (w W : World) : Prop where
  bel : Below w.heap.size w W
  rk : Row W w.heap.size 27 k.cells
  rh : Row W (w.heap.size + 1) 25 head0
  hb : (⟨some ⟨g, 0, none⟩, 21, cap, g, 0, packV13⟩ : SL).Ok W
  hk : k.Ok W
  hg : Glob W
theorem OpW.below {g cap : Nat} {k : KS} {w W W' : World} (s : OpW g cap k w W) (hb : Below W.heap.size W W') : OpW g cap k w W' :=
  ⟨s.bel.trans (hb.mono s.bel.size), s.rk.below hb s.rk.lt, s.rh.below hb s.rh.lt, s.hb.below hb, s.hk.below hb, s.hg.below hb (Nat.le_refl _)⟩
theorem OpW.start (g cap : Nat) (k : KS) (w : World) (hb : (⟨some ⟨g, 0, none⟩, 21, cap, g, 0, packV13⟩ : SL).Ok w) (hk : k.Ok w) (hg : Glob w) : OpW g cap k w ((w.alloc (.cells k.cells 27)).alloc (.cells head0 25)) := by
  have b0 : Below w.heap.size w ((w.alloc (.cells k.cells 27)).alloc (.cells head0 25)) := ((Below.refl _ w).alloc (Nat.le_refl _) _).alloc (by simp) _
  have e : (w.alloc (.cells k.cells 27)).heap.size = w.heap.size + 1 := by simp
  refine ⟨b0, (Row.new _ _ _).alloc _, ?_, hb.below b0, hk.below b0, hg.below b0 (Nat.le_refl _)⟩
  rw [← e]
  exact Row.new _ _ _
theorem long_v13 : longN 49140 3 654360563 = 654360564 ∧ longE 49140 3 654360563 = 0 := by decide +kernel
theorem open_fine13 : openE keyV12 nonV12 (packV13.drop 4) headV13 = 0 ∧ openO keyV12 nonV12 (packV13.drop 4) headV13 = [1] := by
  have h := open_fine (k := keyV12) (n := nonV12) (s := packV13.drop 4) (b := headV13) ⟨rfl, rfl⟩ (by decide) (by decide) (by
    rw [show hidO (packV13.drop 4) = [101] from by decide +kernel, mark_v13]
    decide +kernel)
  rw [show hidO (packV13.drop 4) = [101] from by decide +kernel, plain_v13] at h
  exact h

def depN : Nat → List Nat
  | 2 => [1]
  | 3 => [0, 2]
  | 4 => [3]
  | 6 => [5]
  | 8 => [7]
  | 9 => [6, 8]
  | 11 => [4, 9, 10]
  | 12 => [11]
  | 13 => [12]
  | 14 => [12]
  | 15 => [13]
  | 16 => [14]
  | _ => []
def valN13 (gh ch F : Nat) : Nat → Value
  | 0 => .slice (some ⟨gh, 0, none⟩) 4 ch
  | 1 => .pointer (some ⟨F, 3, none⟩)
  | 2 => .int .i64 1
  | 3 => .slice (some ⟨gh, 1, none⟩) 3 (ch - 1)
  | 4 => .int .u64 49140
  | 5 => .slice (some ⟨gh, 0, none⟩) 4 ch
  | 6 => .int .i64 4
  | 7 => .pointer (some ⟨F, 3, none⟩)
  | 8 => .int .i64 1
  | 9 => .int .i64 3
  | 10 => .int .i64 654360563
  | 11 => .tuple #[.int .u64 654360564, .int .i64 0]
  | 12 => .tuple #[.int .u64 654360564, .int .i64 0]
  | 13 => .int .u64 654360564
  | 14 => .int .i64 0
  | 15 => .int .u64 654360564
  | _ => .int .i64 0
def depP : Nat → List Nat
  | 1 => [0]
  | 3 => [2]
  | 4 => [1, 3]
  | 8 => [4, 5, 6, 7]
  | 9 => [8]
  | 10 => [9]
  | 11 => [9]
  | 12 => [10]
  | 13 => [11]
  | _ => []
/-- A payload of one byte 01. -/
def Pay (W : World) (v : Value) : Prop := ∃ gp cp, v = .slice (some ⟨gp, 0, none⟩) 1 cp ∧ gp < W.heap.size ∧ W.cell? ⟨gp, 0, none⟩ = some (.int .u8 1)
theorem Pay.below {W W' : World} {v : Value} (h : Pay W v) (hb : Below W.heap.size W W') : Pay W' v := by
  obtain ⟨gp, cp, h1, h2, h3⟩ := h
  exact ⟨gp, cp, h1, Nat.lt_of_lt_of_le h2 hb.size, (hb.cell (p := ⟨gp, 0, none⟩) h2).trans h3⟩
def valP13 (k : KS) (g cap gh ch F : Nat) (c : SL) : Nat → World → Value → Prop
  | 0, _, v => v = .pointer (some ⟨F, 0, none⟩)
  | 1, _, v => v = .slice (some ⟨g, 0, none⟩) 21 cap
  | 2, _, v => v = .slice (some ⟨gh, 0, none⟩) 4 ch
  | 3, _, v => v = .int .i64 4
  | 4, _, v => v = .slice c.a c.len c.cap
  | 5, _, v => v = .slice (some ⟨gh, 0, none⟩) 4 ch
  | 6, _, v => v = .int .u64 654360564
  | 7, _, v => v = .agg k.cells
  | 8, W, v => ∃ u, v = .tuple #[u, .int .i64 0] ∧ Pay W u
  | 9, W, v => ∃ u, v = .tuple #[u, .int .i64 0] ∧ Pay W u
  | 10, W, v => Pay W v
  | 11, _, v => v = .int .i64 0
  | 12, W, v => Pay W v
  | 13, _, v => v = .int .i64 0
  | _, _, _ => True
theorem valP13_mono {k : KS} {g cap gh ch F : Nat} {c : SL} : ∀ (j : Nat) (W W' : World) (v : Value), Below W.heap.size W W' → valP13 k g cap gh ch F c j W v → valP13 k g cap gh ch F c j W' v
  | 0, _, _, _, _, h => h
  | 1, _, _, _, _, h => h
  | 2, _, _, _, _, h => h
  | 3, _, _, _, _, h => h
  | 4, _, _, _, _, h => h
  | 5, _, _, _, _, h => h
  | 6, _, _, _, _, h => h
  | 7, _, _, _, _, h => h
  | 8, _, _, _, hb, ⟨u, h1, h2⟩ => ⟨u, h1, h2.below hb⟩
  | 9, _, _, _, hb, ⟨u, h1, h2⟩ => ⟨u, h1, h2.below hb⟩
  | 10, _, _, _, hb, h => h.below hb
  | 11, _, _, _, _, h => h
  | 12, _, _, _, hb, h => h.below hb
  | 13, _, _, _, _, h => h
  | _ + 14, _, _, _, _, _ => trivial
def depH : Nat → List Nat
  | 1 => [0]
  | 3 => [2]
  | 4 => [3]
  | 6 => [5]
  | 7 => [6]
  | 10 => [9]
  | 11 => [10]
  | 13 => [12]
  | 14 => [11, 13]
  | 15 => [14]
  | 16 => [1, 4, 7, 8, 15]
  | 18 => [0, 1, 2, 3, 4, 5, 6, 7, 8, 9, 10, 11, 12, 13, 14, 15, 16, 17]
  | _ => []
def valH13 (g cap gh ch F K S : Nat) : Nat → World → Value → Prop
  | 0, _, v => v = .pointer (some ⟨K, 0, none⟩)
  | 1, _, v => v = .bool false
  | 2, _, v => v = .pointer (some ⟨F, 1, none⟩)
  | 3, _, v => v = .slice (some ⟨g, 1, none⟩) 0 (cap - 1)
  | 4, _, v => ∃ a n c, v = .slice a n c
  | 5, _, v => v = .pointer (some ⟨F, 2, none⟩)
  | 6, _, v => v = .slice none 0 0
  | 7, _, v => v = .slice none 0 0
  | 8, _, v => v = .int .u64 654360564
  | 9, _, v => v = .slice (some ⟨gh, 0, none⟩) 4 ch
  | 10, _, v => v = .pointer (some ⟨gh, 0, none⟩)
  | 11, _, v => v = .int .u8 66
  | 12, _, v => v = .pointer (some ⟨K, 3, none⟩)
  | 13, _, v => v = .int .u8 4
  | 14, _, v => v = .int .u8 0
  | 15, _, v => v = .bool false
  | 16, _, v => ∃ a n c, v = .agg (headC false (.slice a n c) (.slice none 0 0) 654360564 false)
  | 17, W, v => ∃ G, v = .pointer (some ⟨G, 0, none⟩) ∧ S ≤ G ∧ Row W G 25 head0
  | _, _, _ => True
theorem valH13_mono {g cap gh ch F K S : Nat} : ∀ (j : Nat) (W W' : World) (v : Value), Below W.heap.size W W' → valH13 g cap gh ch F K S j W v → valH13 g cap gh ch F K S j W' v
  | 0, _, _, _, _, h => h
  | 1, _, _, _, _, h => h
  | 2, _, _, _, _, h => h
  | 3, _, _, _, _, h => h
  | 4, _, _, _, _, h => h
  | 5, _, _, _, _, h => h
  | 6, _, _, _, _, h => h
  | 7, _, _, _, _, h => h
  | 8, _, _, _, _, h => h
  | 9, _, _, _, _, h => h
  | 10, _, _, _, _, h => h
  | 11, _, _, _, _, h => h
  | 12, _, _, _, _, h => h
  | 13, _, _, _, _, h => h
  | 14, _, _, _, _, h => h
  | 15, _, _, _, _, h => h
  | 16, _, _, _, _, h => h
  | 17, _, _, _, hb, ⟨G, h1, h2, h3⟩ => ⟨G, h1, h2, h3.below hb h3.lt⟩
  | _ + 18, _, _, _, _, _ => trivial
theorem empty_ok (g off cap : Nat) (w : World) : (⟨some ⟨g, off, none⟩, 0, cap, g, off, []⟩ : SL).Ok w :=
  ⟨rfl, Nat.zero_le _, (fun e => by cases e), fun p => absurd p (Nat.lt_irrefl _), fun p => absurd p (Nat.lt_irrefl _), fun _ p => absurd p (Nat.not_lt_zero _)⟩
theorem result_four {P : Program} {fn : Func} {p q r s : Tmp} {ty : TypeId} (h : fn.results = #[.cell p ty, .tmp q, .tmp r, .tmp s]) (tmps : Array Value) (w : World) (g : Nat) (t : TypeId) (cs : Array Value) (hg : Row w g t cs) (n : Nat) (fs : Array Field) (u v z : Value)
    (hp : tmps.getD p undef = .pointer (some ⟨g, 0, none⟩)) (hq : tmps.getD q undef = u) (hr : tmps.getD r undef = v) (hs : tmps.getD s undef = z) (hu : P.underlying ty = some (.struct fs)) (hi : (P.info? ty).map (·.size) = some n) (hc : cs.size = n) :
    (results fn tmps).run P w = .ok (.tuple #[.agg cs, u, v, z]) w := by
  rw [Array.getD_eq_getD_getElem?] at hp hq hr hs
  simp only [results, h]
  simp [Result.andThen, hp, hq, hr, hs, asAddr, run_loadVar_row w g t ty cs (0, 0) _ hg hu rfl (by rw [hc]; exact hi)]
theorem cut_head13 (gh ch : Nat) (h : 4 ≤ ch) (W : World) : (Instr.sliceAt 22 (.slice (some ⟨gh, 0, none⟩) 4 ch) (some (.int .i64 1)) none none).run Tryz.prog W = .ok (.slice (some ⟨gh, 1, none⟩) 3 (ch - 1)) W := by
  simp [Instr.sliceAt, Instr.slice, Instr.sliceBounds, Instr.sliceBound, asIntOf, run_underlying Tryz.underlying22, show ¬ ch = 1 by omega]
  rfl

set_option maxRecDepth 20000 in
set_option maxHeartbeats 2000000 in
theorem open_v13 (g cap : Nat) (k : KS) (w : World) (hg : Glob w) (hb : (⟨some ⟨g, 0, none⟩, 21, cap, g, 0, packV13⟩ : SL).Ok w) (hk : k.Ok w) (hkb : k.key.b = keyV12) (hib : k.iv.b = ivV12) (hmb : k.mask.b = hpV12) :
    Calls Tryz.prog 71 #[.slice (some ⟨g, 0, none⟩) 21 cap, .int .i64 0, .agg k.cells, .int .i64 654360563] w fun e w' => ∃ a n c gp cp, e = .returned (.tuple #[.agg (headC false (.slice a n c) (.slice none 0 0) 654360564 false), .slice (some ⟨gp, 0, none⟩) 1 cp, .int .i64 21, .int .i64 0]) ∧ w'.cell? ⟨gp, 0, none⟩ = some (.int .u8 1) ∧ Below w.heap.size w w' := by
  have S0 := veil (OpW.start g cap k w hb hk hg)
  have HKB := veil hkb
  have HIB := veil hib
  have HMB := veil hmb
  have HML := veil (show k.mask.len = 32 by rw [← hk.mask.hb, hmb]; rfl)
  have HIL := veil (show k.iv.len = 12 by rw [← hk.iv.hb, hib]; rfl)
  have HK := veil (show keysP k.key.b k.iv.b k.mask.b = true by rw [hkb, hib, hmb]; rfl)
  have hcap : 21 ≤ cap := hb.hcap
  have k0 := KS.c0 S0.out.rk
  have k1 := KS.c1 S0.out.rk
  have k2 := KS.c2 S0.out.rk
  clear hg hb hk hkb hib hmb
  go_enter Tryz.func71, Tryz.ntmps71
  go_wp2_with (first
    | (with_reducible (show wpList _ _ _ (⟨_, Op.alloc 25, _, _, _, _⟩ :: _) _ _)
       refine alloc_row rfl 25 rfl head0 (by kernel_rfl) ?_))
  generalize (w.alloc (.cells k.cells 27)).alloc (.cells head0 25) = w0 at *
  clear k0 k1 k2
  refine (mayBeKeys_any k w0 S0.out.hk).mono ?_
  rintro e1 w1 ⟨rfl, hb1⟩
  rw [HK.out]
  have S1 := veil (S0.out.below hb1)
  clear hb1 S0
  go_wp2_with fail
  refine (read_v13 g cap w1 hcap (S1.out.hb.cell 0 (by show 0 < 21; decide)) (S1.out.hb.lt (by show 0 < 21; decide))).mono ?_
  rintro e2 w2 ⟨rfl, hb2⟩
  have S2 := veil (S1.out.below hb2)
  clear hb2 S1
  have S3 := veil (S2.out.below ((Below.refl _ w2).alloc (Nat.le_refl _) (.cells (foundV g cap) 175)))
  have R3 : Hid (Row (w2.alloc (.cells (foundV g cap) 175)) w2.heap.size 175 (foundV g cap)) := Row.new _ _ _
  go_wp2_with (first
    | (with_reducible (show wpList _ _ _ (⟨_, Op.alloc 175, _, _, _, _⟩ :: _) _ _)
       refine alloc_row rfl 175 rfl found0 (by kernel_rfl) ?_)
    | (with_reducible (show wpList _ _ _ (⟨_, Op.store 175 _ _, _, _, _, _⟩ :: _) _ _)
       refine store_new (w := w2) (by rfl) 175 _ _ (by rfl) w2.heap.size _ (by rfl) (by rfl) 175 found0 (by rfl) 4 (by kernel_rfl) (by rfl) (by rfl) (by rfl) ?_)
    | (with_reducible (show wpList _ _ _ (⟨_, Op.load 175 _, _, _, _, _⟩ :: _) _ _)
       refine wpList_load_row rfl 175 _ rfl w2.heap.size rfl 175 (foundV g cap) (0, 0) _ R3.out Tryz.underlying175 rfl (by rfl) ?_)
    | (with_reducible (show wpList _ _ _ (⟨_, Op.load 27 _, _, _, _, _⟩ :: _) _ _)
       refine wpList_load_row rfl 27 _ rfl w.heap.size rfl 27 k.cells (0, 0) _ S3.out.rk Tryz.underlying27 rfl (by rfl) ?_))
  obtain ⟨F, hF⟩ : ∃ F, w2.heap.size = F := ⟨_, rfl⟩
  rw [hF] at R3
  rw [hF]
  generalize w2.alloc (.cells (foundV g cap) 175) = w3 at *
  clear hF S2
  refine (bared_v13 g cap k w3 S3.out.hg S3.out.hb S3.out.hk HML.out HMB.out).mono ?_
  rintro e4 w4 ⟨gh, ch, rfl, own4, hb4⟩
  have S4 := veil (S3.out.below hb4)
  have R4 := veil (R3.out.below hb4 R3.out.lt)
  have O4 := veil own4
  have h0 : w4.cell? ⟨gh, 1, none⟩ = some (.int .u8 0) := own_cellB own4 (j := 1) (by decide)
  have h1 : w4.cell? ⟨gh, 2, none⟩ = some (.int .u8 191) := own_cellB own4 (j := 2) (by decide)
  have h2 : w4.cell? ⟨gh, 3, none⟩ = some (.int .u8 244) := own_cellB own4 (j := 3) (by decide)
  have f3 : w4.cell? ⟨F, 3, none⟩ = some (.int .i64 1) := R4.out.cell 3
  have HCH := veil ((own_okB own4).hcap)
  have hch : 4 ≤ ch := HCH.out
  have hne : ¬ ch = 1 := by omega
  have hne2 : ¬ 1 = ch := by omega
  clear own4 hb4 S3 R3
  go_wp2_with fail
  refine (wpIn_wide (n := 4)).1 ?_
  refine wpIn_region_any (by kernel_rfl) ?_
  refine anyIn_genS (w0 := w4) (fun j _ v => v = valN13 gh ch F j) (fun _ _ _ _ _ h => h) [56, 57, 58, 59, 60, 61, 62, 63, 64, 65, 66, 67, 55, 68, 69, 15, 13] depN (by kernel_rfl) rfl (by decide) ((Below.refl _ _).drew) ?step ?done
  case step =>
    intro x W i e hW hdi hdep
    match i, hdi, hdep with
    | 0, hdi, _ =>
      obtain rfl := Option.some.inj hdi
      exact OI_value rfl rfl (about_none (by intro c h; cases h)) (by intro c h; cases h) (.slice (some ⟨gh, 0, none⟩) 4 ch) W (by kernel_rfl) ⟨_, rfl, Below.refl _ _, rfl⟩
    | 1, hdi, _ =>
      obtain rfl := Option.some.inj hdi
      exact OI_value rfl rfl (about_none (by intro c h; cases h)) (by intro c h; cases h) (.pointer (some ⟨F, 3, none⟩)) W (by kernel_rfl) ⟨_, rfl, Below.refl _ _, rfl⟩
    | 2, hdi, hdep =>
      obtain rfl := Option.some.inj hdi
      rw [updV_self (show x 1 = _ from hdep 1 (by simp [depN]))]
      exact OI_value rfl rfl (about_none (by intro c h; cases h)) (by intro c h; cases h) (.int .i64 1) W (run_cell 3 _ ⟨F, 3, none⟩ _ _ rfl (by kernel_rfl) Tryz.underlying3 rfl W ((R4.out.below hW R4.out.lt).cell 3)) ⟨_, rfl, Below.refl _ _, rfl⟩
    | 3, hdi, hdep =>
      obtain rfl := Option.some.inj hdi
      rw [updV_self (show x 0 = _ from hdep 0 (by simp [depN])), updV_self (show (updV x 0 _) 2 = _ from hdep 2 (by simp [depN]))]
      exact OI_value rfl rfl (about_none (by intro c h; cases h)) (by intro c h; cases h) (.slice (some ⟨gh, 1, none⟩) 3 (ch - 1)) W (run_sliceOp _ _ _ _ _ rfl _ _ _ _ (by kernel_rfl) (by kernel_rfl) (by kernel_rfl) (by kernel_rfl) _ W (cut_head13 gh ch hch W)) ⟨_, rfl, Below.refl _ _, rfl⟩
    | 4, hdi, hdep =>
      obtain rfl := Option.some.inj hdi
      rw [updV_self (show x 3 = _ from hdep 3 (by simp [depN]))]
      refine OI_call rfl rfl (by intro c h; cases h) 114 #[.slice (some ⟨gh, 1, none⟩) 3 (ch - 1)] (fun _ _ => trivial) (by kernel_rfl) (by decide) ?_
      refine (callsIn_wide.2 (number_v13 gh 1 (ch - 1) W ((hW.cell (p := ⟨gh, 1, none⟩) (O4.out.lt gh rfl).2).trans h0) ((hW.cell (p := ⟨gh, 2, none⟩) (O4.out.lt gh rfl).2).trans h1) ((hW.cell (p := ⟨gh, 3, none⟩) (O4.out.lt gh rfl).2).trans h2))).mono ?_
      rintro e w' ⟨rfl, rfl⟩
      exact ⟨_, rfl, _, rfl, Below.refl _ _, rfl⟩
    | 5, hdi, _ =>
      obtain rfl := Option.some.inj hdi
      exact OI_value rfl rfl (about_none (by intro c h; cases h)) (by intro c h; cases h) (.slice (some ⟨gh, 0, none⟩) 4 ch) W (by kernel_rfl) ⟨_, rfl, Below.refl _ _, rfl⟩
    | 6, hdi, hdep =>
      obtain rfl := Option.some.inj hdi
      rw [updV_self (show x 5 = _ from hdep 5 (by simp [depN]))]
      exact OI_value rfl rfl (about_builtin _ _ _ rfl) (by intro c h; cases h) (.int .i64 4) W (by kernel_rfl) ⟨_, rfl, Below.refl _ _, rfl⟩
    | 7, hdi, _ =>
      obtain rfl := Option.some.inj hdi
      exact OI_value rfl rfl (about_none (by intro c h; cases h)) (by intro c h; cases h) (.pointer (some ⟨F, 3, none⟩)) W (by kernel_rfl) ⟨_, rfl, Below.refl _ _, rfl⟩
    | 8, hdi, hdep =>
      obtain rfl := Option.some.inj hdi
      rw [updV_self (show x 7 = _ from hdep 7 (by simp [depN]))]
      exact OI_value rfl rfl (about_none (by intro c h; cases h)) (by intro c h; cases h) (.int .i64 1) W (run_cell 3 _ ⟨F, 3, none⟩ _ _ rfl (by kernel_rfl) Tryz.underlying3 rfl W ((R4.out.below hW R4.out.lt).cell 3)) ⟨_, rfl, Below.refl _ _, rfl⟩
    | 9, hdi, hdep =>
      obtain rfl := Option.some.inj hdi
      rw [updV_self (show x 6 = _ from hdep 6 (by simp [depN])), updV_self (show (updV x 6 _) 8 = _ from hdep 8 (by simp [depN]))]
      exact OI_value rfl rfl (about_none (by intro c h; cases h)) (by intro c h; cases h) (.int .i64 3) W (by kernel_rfl) ⟨_, rfl, Below.refl _ _, rfl⟩
    | 10, hdi, _ =>
      obtain rfl := Option.some.inj hdi
      exact OI_value rfl rfl (about_none (by intro c h; cases h)) (by intro c h; cases h) (.int .i64 654360563) W (by kernel_rfl) ⟨_, rfl, Below.refl _ _, rfl⟩
    | 11, hdi, hdep =>
      obtain rfl := Option.some.inj hdi
      rw [updV_self (show x 4 = _ from hdep 4 (by simp [depN])), updV_self (show updV x 4 _ 9 = _ from hdep 9 (by simp [depN])), updV_self (show updV (updV x 4 _) 9 _ 10 = _ from hdep 10 (by simp [depN]))]
      refine OI_call rfl rfl (by intro c h; cases h) 113 #[.int .u64 49140, .int .i64 3, .int .i64 654360563] (fun _ _ => trivial) (by kernel_rfl) (by decide) ?_
      refine (callsIn_wide.2 (long_any 49140 3 654360563 W (by decide) (by decide) (by decide))).mono ?_
      rintro e w' ⟨rfl, rfl⟩
      rw [long_v13.1, long_v13.2]
      exact ⟨_, rfl, _, rfl, Below.refl _ _, rfl⟩
    | 12, hdi, hdep =>
      obtain rfl := Option.some.inj hdi
      rw [updV_self (show x 11 = _ from hdep 11 (by simp [depN]))]
      exact OI_value rfl rfl (about_none (by intro c h; cases h)) (by intro c h; cases h) (.tuple #[.int .u64 654360564, .int .i64 0]) W (by kernel_rfl) ⟨_, rfl, Below.refl _ _, rfl⟩
    | 13, hdi, hdep =>
      obtain rfl := Option.some.inj hdi
      rw [updV_self (show x 12 = _ from hdep 12 (by simp [depN]))]
      exact OI_value rfl rfl (about_none (by intro c h; cases h)) (by intro c h; cases h) (.int .u64 654360564) W (by kernel_rfl) ⟨_, rfl, Below.refl _ _, rfl⟩
    | 14, hdi, hdep =>
      obtain rfl := Option.some.inj hdi
      rw [updV_self (show x 12 = _ from hdep 12 (by simp [depN]))]
      exact OI_value rfl rfl (about_none (by intro c h; cases h)) (by intro c h; cases h) (.int .i64 0) W (by kernel_rfl) ⟨_, rfl, Below.refl _ _, rfl⟩
    | 15, hdi, hdep =>
      obtain rfl := Option.some.inj hdi
      rw [updV_self (show x 13 = _ from hdep 13 (by simp [depN]))]
      exact OI_value rfl rfl (about_none (by intro c h; cases h)) (by intro c h; cases h) (.int .u64 654360564) W (by kernel_rfl) ⟨_, rfl, Below.refl _ _, rfl⟩
    | 16, hdi, hdep =>
      obtain rfl := Option.some.inj hdi
      rw [updV_self (show x 14 = _ from hdep 14 (by simp [depN]))]
      exact OI_value rfl rfl (about_none (by intro c h; cases h)) (by intro c h; cases h) (.int .i64 0) W (by kernel_rfl) ⟨_, rfl, Below.refl _ _, rfl⟩
    | _ + 17, hdi, _ => simp at hdi
  case done =>
    intro x w5 hW5 hx
    have e15 : x 15 = .int .u64 654360564 := hx 15 (by decide)
    have e16 : x 16 = .int .i64 0 := hx 16 (by decide)
    simp only [putsV, Act.put, List.setIfInBounds_toArray, List.set_cons_succ, List.set_cons_zero, Nat.reduceAdd, e15, e16]
    generalize x 0 = z0, x 1 = z1, x 2 = z2, x 3 = z3, x 4 = z4, x 5 = z5, x 6 = z6, x 7 = z7, x 8 = z8, x 9 = z9, x 10 = z10, x 11 = z11, x 12 = z12, x 13 = z13, x 14 = z14
    have S5 := veil (S4.out.below hW5)
    have R5 := veil (R4.out.below hW5 R4.out.lt)
    have O5 := veil (own_below O4.out hW5)
    clear hx e15 e16 h0 h1 h2 f3 S4 R4 O4 hW5
    go_wp2_with fail
    obtain ⟨c, hcut, ⟨hcl, hcb⟩, hcok, _⟩ := cut_lo ⟨some ⟨g, 0, none⟩, 21, cap, g, 0, packV13⟩ w5 S5.out.hb 4 (by show 4 ≤ 21; decide)
    have HCL := veil (show c.len ≤ 1048576 by have : c.len = 21 - 4 := hcl; omega)
    have HCB := veil (show c.b = packV13.drop 4 from hcb)
    have HCU := veil hcut
    have HCOK := veil (hcok _ S5.out.hb)
    clear hcut hcl hcb hcok
    refine (wpIn_wide (n := 4)).1 ?_
    refine wpIn_region_any (by kernel_rfl) ?_
    refine anyIn_genS (w0 := w5) (valP13 k g cap gh ch F c) valP13_mono [75, 76, 77, 78, 79, 80, 81, 82, 83, 74, 84, 85, 16, 13] depP (by kernel_rfl) rfl (by decide) ((Below.refl _ _).drew) ?step2 ?done2
    case step2 =>
      intro x W i e hW hdi hdep
      match i, hdi, hdep with
      | 0, hdi, _ =>
        obtain rfl := Option.some.inj hdi
        exact OI_value rfl rfl (about_none (by intro c h; cases h)) (by intro c h; cases h) (.pointer (some ⟨F, 0, none⟩)) W (by kernel_rfl) ⟨_, rfl, Below.refl _ _, rfl⟩
      | 1, hdi, hdep =>
        obtain rfl := Option.some.inj hdi
        rw [updV_self (show x 0 = _ from hdep 0 (by simp [depP]))]
        exact OI_value rfl rfl (about_none (by intro c h; cases h)) (by intro c h; cases h) (.slice (some ⟨g, 0, none⟩) 21 cap) W (run_cell 22 _ ⟨F, 0, none⟩ _ _ rfl (by kernel_rfl) Tryz.underlying22 rfl W ((R5.out.below hW R5.out.lt).cell 0)) ⟨_, rfl, Below.refl _ _, rfl⟩
      | 2, hdi, _ =>
        obtain rfl := Option.some.inj hdi
        exact OI_value rfl rfl (about_none (by intro c h; cases h)) (by intro c h; cases h) (.slice (some ⟨gh, 0, none⟩) 4 ch) W (by kernel_rfl) ⟨_, rfl, Below.refl _ _, rfl⟩
      | 3, hdi, hdep =>
        obtain rfl := Option.some.inj hdi
        rw [updV_self (show x 2 = _ from hdep 2 (by simp [depP]))]
        exact OI_value rfl rfl (about_builtin _ _ _ rfl) (by intro c h; cases h) (.int .i64 4) W (by kernel_rfl) ⟨_, rfl, Below.refl _ _, rfl⟩
      | 4, hdi, hdep =>
        obtain rfl := Option.some.inj hdi
        rw [updV_self (show x 1 = _ from hdep 1 (by simp [depP])), updV_self (show (updV x 1 _) 3 = _ from hdep 3 (by simp [depP]))]
        exact OI_value rfl rfl (about_none (by intro c h; cases h)) (by intro c h; cases h) (.slice c.a c.len c.cap) W (run_sliceOp _ _ _ _ _ rfl _ _ _ _ (by kernel_rfl) (by kernel_rfl) (by kernel_rfl) (by kernel_rfl) _ W (HCU.out W)) ⟨_, rfl, Below.refl _ _, rfl⟩
      | 5, hdi, _ =>
        obtain rfl := Option.some.inj hdi
        exact OI_value rfl rfl (about_none (by intro c h; cases h)) (by intro c h; cases h) (.slice (some ⟨gh, 0, none⟩) 4 ch) W (by kernel_rfl) ⟨_, rfl, Below.refl _ _, rfl⟩
      | 6, hdi, _ =>
        obtain rfl := Option.some.inj hdi
        exact OI_value rfl rfl (about_none (by intro c h; cases h)) (by intro c h; cases h) (.int .u64 654360564) W (by kernel_rfl) ⟨_, rfl, Below.refl _ _, rfl⟩
      | 7, hdi, _ =>
        obtain rfl := Option.some.inj hdi
        exact OI_value rfl rfl (about_none (by intro c h; cases h)) (by intro c h; cases h) (.agg k.cells) W (run_load_st 27 _ rfl w.heap.size (by kernel_rfl) 27 k.cells 3 _ Tryz.underlying27 (by kernel_rfl) rfl W (S5.out.rk.below hW S5.out.rk.lt)) ⟨_, rfl, Below.refl _ _, rfl⟩
      | 8, hdi, hdep =>
        obtain rfl := Option.some.inj hdi
        rw [updV_self (show x 4 = _ from hdep 4 (by simp [depP])), updV_self (show updV x 4 _ 5 = _ from hdep 5 (by simp [depP])), updV_self (show updV (updV x 4 _) 5 _ 6 = _ from hdep 6 (by simp [depP])), updV_self (show updV (updV (updV x 4 _) 5 _) 6 _ 7 = _ from hdep 7 (by simp [depP]))]
        refine OI_call rfl rfl (by intro c h; cases h) 115 #[.slice c.a c.len c.cap, .slice (some ⟨gh, 0, none⟩) 4 ch, .int .u64 654360564, .agg k.cells] (fun _ _ => trivial) (by kernel_rfl) (by decide) ?_
        have hoe := open_fine13
        have hnon : nonceL k.iv.b 654360564 = nonV12 := by rw [HIB.out]; exact vec_non12
        refine (callsIn_wide.2 (opened_ok c ⟨some ⟨gh, 0, none⟩, 4, ch, gh, 0, headV13⟩ 654360564 k W (S5.out.hg.below hW (Nat.le_refl _)) (HCOK.out.below hW) ((own_okB O5.out).below hW) (S5.out.hk.below hW) HIL.out (by decide) HCL.out (by rw [HKB.out, hnon, HCB.out]; exact hoe.1))).mono ?_
        rintro e w' ⟨a8, c8, rfl, own8, hb'⟩
        simp only at own8 ⊢
        rw [HKB.out, hnon, HCB.out, hoe.2] at own8
        rw [HKB.out, hnon, HCB.out, hoe.2]
        obtain ⟨gp, cp, hv, _⟩ := own_someB own8 (by decide)
        injection hv with ea eb ec
        subst ea ec
        exact ⟨_, rfl, _, rfl, hb', ⟨_, rfl, ⟨gp, c8, rfl, (own8.lt gp rfl).2, own_cellB own8 (j := 0) (by decide)⟩⟩⟩
      | 9, hdi, hdep =>
        obtain rfl := Option.some.inj hdi
        obtain ⟨u, e4, h1⟩ := hdep 8 (by simp [depP])
        rw [updV_self (show x 8 = _ from e4)]
        exact OI_value rfl rfl (about_none (by intro c h; cases h)) (by intro c h; cases h) (.tuple #[u, .int .i64 0]) W (by kernel_rfl) ⟨_, rfl, Below.refl _ _, ⟨u, rfl, h1⟩⟩
      | 10, hdi, hdep =>
        obtain rfl := Option.some.inj hdi
        obtain ⟨u, e4, h1⟩ := hdep 9 (by simp [depP])
        rw [updV_self (show x 9 = _ from e4)]
        exact OI_value rfl rfl (about_none (by intro c h; cases h)) (by intro c h; cases h) u W (by kernel_rfl) ⟨_, rfl, Below.refl _ _, h1⟩
      | 11, hdi, hdep =>
        obtain rfl := Option.some.inj hdi
        obtain ⟨u, e4, h1⟩ := hdep 9 (by simp [depP])
        rw [updV_self (show x 9 = _ from e4)]
        exact OI_value rfl rfl (about_none (by intro c h; cases h)) (by intro c h; cases h) (.int .i64 0) W (by kernel_rfl) ⟨_, rfl, Below.refl _ _, rfl⟩
      | 12, hdi, hdep =>
        obtain rfl := Option.some.inj hdi
        obtain ⟨gp, cp, e4, h1⟩ := hdep 10 (by simp [depP])
        rw [updV_self (show x 10 = _ from e4)]
        exact OI_value rfl rfl (about_none (by intro c h; cases h)) (by intro c h; cases h) (.slice (some ⟨gp, 0, none⟩) 1 cp) W (by kernel_rfl) ⟨_, rfl, Below.refl _ _, ⟨gp, cp, rfl, h1⟩⟩
      | 13, hdi, hdep =>
        obtain rfl := Option.some.inj hdi
        rw [updV_self (show x 11 = _ from hdep 11 (by simp [depP]))]
        exact OI_value rfl rfl (about_none (by intro c h; cases h)) (by intro c h; cases h) (.int .i64 0) W (by kernel_rfl) ⟨_, rfl, Below.refl _ _, rfl⟩
      | _ + 14, hdi, _ => simp at hdi
    case done2 =>
      intro x w6 hW6 hx
      obtain ⟨gp, cp, e12, hgp, hcp⟩ : Pay w6 (x 12) := hx 12 (by decide)
      have e13 : x 13 = .int .i64 0 := hx 13 (by decide)
      simp only [putsV, Act.put, List.setIfInBounds_toArray, List.set_cons_succ, List.set_cons_zero, Nat.reduceAdd, e12, e13]
      generalize x 0 = y0, x 1 = y1, x 2 = y2, x 3 = y3, x 4 = y4, x 5 = y5, x 6 = y6, x 7 = y7, x 8 = y8, x 9 = y9, x 10 = y10, x 11 = y11
      have S6 := veil (S5.out.below hW6)
      have R6 := veil (R5.out.below hW6 R5.out.lt)
      have O6 := veil (own_below O5.out hW6)
      have PP := veil (And.intro hgp hcp)
      have hh0 : w6.cell? ⟨gh, 0, none⟩ = some (.int .u8 66) := own_cellB O6.out (j := 0) (by decide)
      clear hx e12 e13 hgp hcp hW6 S5 R5 O5 HCL HCB HCU HCOK
      go_wp2_with fail
      refine (kindOf_any 66 w6).mono ?_
      rintro e7 w7 ⟨rfl, hb7⟩
      rw [show longB 66 = false from rfl]
      have S7 := veil (S6.out.below (hb7.trans ((Below.refl _ w7).alloc hb7.size (.cells (#[.bool false, .int .u8 31, .int .u8 24, .int .u8 4]) 87))))
      have R7 := veil (R6.out.below (hb7.trans ((Below.refl _ w7).alloc hb7.size (.cells (#[.bool false, .int .u8 31, .int .u8 24, .int .u8 4]) 87))) R6.out.lt)
      have O7 := veil (own_below O6.out (hb7.trans ((Below.refl _ w7).alloc hb7.size (.cells (#[.bool false, .int .u8 31, .int .u8 24, .int .u8 4]) 87))))
      have RK7 : Hid (Row (w7.alloc (.cells (#[.bool false, .int .u8 31, .int .u8 24, .int .u8 4]) 87)) w7.heap.size 87 #[.bool false, .int .u8 31, .int .u8 24, .int .u8 4]) := Row.new _ _ _
      have P7 : Hid (Pay (w7.alloc (.cells (#[.bool false, .int .u8 31, .int .u8 24, .int .u8 4]) 87)) (.slice (some ⟨gp, 0, none⟩) 1 cp)) := Pay.below ⟨gp, cp, rfl, PP.out.1, PP.out.2⟩ (hb7.trans ((Below.refl _ w7).alloc hb7.size (.cells (#[.bool false, .int .u8 31, .int .u8 24, .int .u8 4]) 87)))
      clear hb7 hh0 S6 R6 O6 PP
      go_wp2_with (first
        | (with_reducible (show wpList _ _ _ (⟨_, Op.alloc 87, _, _, _, _⟩ :: _) _ _)
           refine alloc_row rfl 87 rfl #[.bool false, .int .u8 0, .int .u8 0, .int .u8 0] (by kernel_rfl) ?_)
        | (with_reducible (show wpList _ _ _ (⟨_, Op.store 87 _ _, _, _, _, _⟩ :: _) _ _)
           refine store_new (w := w7) (by rfl) 87 _ _ (by rfl) w7.heap.size _ (by rfl) (by rfl) 87 #[.bool false, .int .u8 0, .int .u8 0, .int .u8 0] (by rfl) 4 (by kernel_rfl) (by rfl) (by rfl) (by rfl) ?_))
      obtain ⟨K9, hK9⟩ : ∃ K, w7.heap.size = K := ⟨_, rfl⟩
      rw [hK9] at RK7
      rw [hK9]
      generalize w7.alloc (.cells (#[.bool false, .int .u8 31, .int .u8 24, .int .u8 4]) 87) = w8 at *
      clear hK9
      have hh0 : w8.cell? ⟨gh, 0, none⟩ = some (.int .u8 66) := own_cellB O7.out (j := 0) (by decide)
      have dh0 : w8.drew.cell? ⟨gh, 0, none⟩ = some (.int .u8 66) := own_cellB O7.out (j := 0) (by decide)
      have hk2 : w8.cell? ⟨K9, 2, none⟩ = some (.int .u8 24) := RK7.out.cell 2
      have dk2 : w8.drew.cell? ⟨K9, 2, none⟩ = some (.int .u8 24) := RK7.out.cell 2
      have hand : bits BinOp.and IntKind.u8 66 24 = 0 := by decide +kernel
      go_region
      have S9 := veil (S7.out.below (Below.refl _ w8).drew)
      have R9 := veil (R7.out.drew)
      have O9 := veil (O7.out.drew)
      have RK9 := veil (RK7.out.drew)
      have P9 := veil (P7.out.below (Below.refl _ w8).drew)
      clear hh0 dh0 hk2 dk2 hand S7 R7 O7 RK7 P7
      generalize w8.drew = w9 at *
      go_wp2_with fail
      refine (wpIn_wide (n := 4)).1 ?_
      refine wpIn_region_any (by kernel_rfl) ?_
      refine anyIn_storeS (w0 := w9) (valH13 g cap gh ch F K9 w9.heap.size) valH13_mono [107, 108, 109, 110, 111, 112, 113, 114, 115, 116, 117, 118, 119, 120, 121, 122, 123, 18] depH (by kernel_rfl) rfl (by decide) (by intro j hj; have : j < 18 := hj; simp [depH]; omega) ((Below.refl _ _).drew)
        (fun x U => ∃ G a n c, x 17 = .pointer (some ⟨G, 0, none⟩) ∧ w9.heap.size ≤ G ∧ Row U G 25 (headC false (.slice a n c) (.slice none 0 0) 654360564 false) ∧ Below w9.heap.size w9 U) ?step3 ?last3 ?done3
      case step3 =>
        intro x W i e hW hdi hdep
        match i, hdi, hdep with
        | 0, hdi, _ =>
          obtain rfl := Option.some.inj hdi
          exact OI_value rfl rfl (about_none (by intro c h; cases h)) (by intro c h; cases h) (.pointer (some ⟨K9, 0, none⟩)) W (by kernel_rfl) ⟨_, rfl, Below.refl _ _, rfl⟩
        | 1, hdi, hdep =>
          obtain rfl := Option.some.inj hdi
          rw [updV_self (show x 0 = _ from hdep 0 (by simp [depH]))]
          exact OI_value rfl rfl (about_none (by intro c h; cases h)) (by intro c h; cases h) (.bool false) W (run_cell 4 _ ⟨K9, 0, none⟩ _ _ rfl (by kernel_rfl) Tryz.underlying4 rfl W ((RK9.out.below hW RK9.out.lt).cell 0)) ⟨_, rfl, Below.refl _ _, rfl⟩
        | 2, hdi, _ =>
          obtain rfl := Option.some.inj hdi
          exact OI_value rfl rfl (about_none (by intro c h; cases h)) (by intro c h; cases h) (.pointer (some ⟨F, 1, none⟩)) W (by kernel_rfl) ⟨_, rfl, Below.refl _ _, rfl⟩
        | 3, hdi, hdep =>
          obtain rfl := Option.some.inj hdi
          rw [updV_self (show x 2 = _ from hdep 2 (by simp [depH]))]
          exact OI_value rfl rfl (about_none (by intro c h; cases h)) (by intro c h; cases h) (.slice (some ⟨g, 1, none⟩) 0 (cap - 1)) W (run_cell 22 _ ⟨F, 1, none⟩ _ _ rfl (by kernel_rfl) Tryz.underlying22 rfl W ((R9.out.below hW R9.out.lt).cell 1)) ⟨_, rfl, Below.refl _ _, rfl⟩
        | 4, hdi, hdep =>
          obtain rfl := Option.some.inj hdi
          rw [updV_self (show x 3 = _ from hdep 3 (by simp [depH]))]
          refine OI_call rfl rfl (by intro c h; cases h) 116 #[.slice (some ⟨g, 1, none⟩) 0 (cap - 1)] (fun _ _ => trivial) (by kernel_rfl) (by decide) ?_
          refine (callsIn_wide.2 (clone_some ⟨some ⟨g, 1, none⟩, 0, cap - 1, g, 1, []⟩ _ W (empty_ok _ _ _ _) rfl (by show 0 ≤ 1048576; decide))).mono ?_
          rintro e w' ⟨v, rfl, own, hb'⟩
          obtain ⟨a, c, hv⟩ := own_shape own
          exact ⟨_, rfl, _, rfl, hb', ⟨a, _, c, hv⟩⟩
        | 5, hdi, _ =>
          obtain rfl := Option.some.inj hdi
          exact OI_value rfl rfl (about_none (by intro c h; cases h)) (by intro c h; cases h) (.pointer (some ⟨F, 2, none⟩)) W (by kernel_rfl) ⟨_, rfl, Below.refl _ _, rfl⟩
        | 6, hdi, hdep =>
          obtain rfl := Option.some.inj hdi
          rw [updV_self (show x 5 = _ from hdep 5 (by simp [depH]))]
          exact OI_value rfl rfl (about_none (by intro c h; cases h)) (by intro c h; cases h) (.slice none 0 0) W (run_cell 22 _ ⟨F, 2, none⟩ _ _ rfl (by kernel_rfl) Tryz.underlying22 rfl W ((R9.out.below hW R9.out.lt).cell 2)) ⟨_, rfl, Below.refl _ _, rfl⟩
        | 7, hdi, hdep =>
          obtain rfl := Option.some.inj hdi
          rw [updV_self (show x 6 = _ from hdep 6 (by simp [depH]))]
          refine OI_call rfl rfl (by intro c h; cases h) 116 #[.slice none 0 0] (fun _ _ => trivial) (by kernel_rfl) (by decide) ?_
          refine (callsIn_wide.2 (clone_nil W)).mono ?_
          rintro e w' ⟨rfl, rfl⟩
          exact ⟨_, rfl, _, rfl, Below.refl _ _, rfl⟩
        | 8, hdi, _ =>
          obtain rfl := Option.some.inj hdi
          exact OI_value rfl rfl (about_none (by intro c h; cases h)) (by intro c h; cases h) (.int .u64 654360564) W (by kernel_rfl) ⟨_, rfl, Below.refl _ _, rfl⟩
        | 9, hdi, _ =>
          obtain rfl := Option.some.inj hdi
          exact OI_value rfl rfl (about_none (by intro c h; cases h)) (by intro c h; cases h) (.slice (some ⟨gh, 0, none⟩) 4 ch) W (by kernel_rfl) ⟨_, rfl, Below.refl _ _, rfl⟩
        | 10, hdi, hdep =>
          obtain rfl := Option.some.inj hdi
          rw [updV_self (show x 9 = _ from hdep 9 (by simp [depH]))]
          exact OI_value rfl rfl (about_none (by intro c h; cases h)) (by intro c h; cases h) (.pointer (some ⟨gh, 0, none⟩)) W (run_at6 22 5 _ _ gh 0 4 ch 0 rfl (by kernel_rfl) (by kernel_rfl) Tryz.underlying22 (by kernel_rfl) (by decide) W) ⟨_, rfl, Below.refl _ _, rfl⟩
        | 11, hdi, hdep =>
          obtain rfl := Option.some.inj hdi
          rw [updV_self (show x 10 = _ from hdep 10 (by simp [depH]))]
          exact OI_value rfl rfl (about_none (by intro c h; cases h)) (by intro c h; cases h) (.int .u8 66) W (run_cell 5 _ ⟨gh, 0, none⟩ _ _ rfl (by kernel_rfl) Tryz.underlying5 rfl W ((hW.cell (p := ⟨gh, 0, none⟩) (O9.out.lt gh rfl).2).trans (own_cellB O9.out (j := 0) (by decide)))) ⟨_, rfl, Below.refl _ _, rfl⟩
        | 12, hdi, _ =>
          obtain rfl := Option.some.inj hdi
          exact OI_value rfl rfl (about_none (by intro c h; cases h)) (by intro c h; cases h) (.pointer (some ⟨K9, 3, none⟩)) W (by kernel_rfl) ⟨_, rfl, Below.refl _ _, rfl⟩
        | 13, hdi, hdep =>
          obtain rfl := Option.some.inj hdi
          rw [updV_self (show x 12 = _ from hdep 12 (by simp [depH]))]
          exact OI_value rfl rfl (about_none (by intro c h; cases h)) (by intro c h; cases h) (.int .u8 4) W (run_cell 5 _ ⟨K9, 3, none⟩ _ _ rfl (by kernel_rfl) Tryz.underlying5 rfl W ((RK9.out.below hW RK9.out.lt).cell 3)) ⟨_, rfl, Below.refl _ _, rfl⟩
        | 14, hdi, hdep =>
          obtain rfl := Option.some.inj hdi
          rw [updV_self (show x 11 = _ from hdep 11 (by simp [depH])), updV_self (show (updV x 11 _) 13 = _ from hdep 13 (by simp [depH]))]
          exact OI_value rfl rfl (about_none (by intro c h; cases h)) (by intro c h; cases h) (.int .u8 0) W (by kernel_rfl) ⟨_, rfl, Below.refl _ _, rfl⟩
        | 15, hdi, hdep =>
          obtain rfl := Option.some.inj hdi
          rw [updV_self (show x 14 = _ from hdep 14 (by simp [depH]))]
          exact OI_value rfl rfl (about_none (by intro c h; cases h)) (by intro c h; cases h) (.bool false) W (by kernel_rfl) ⟨_, rfl, Below.refl _ _, rfl⟩
        | 16, hdi, hdep =>
          obtain rfl := Option.some.inj hdi
          obtain ⟨a4, n4, c4, e4⟩ := hdep 4 (by simp [depH])
          rw [updV_self (show x 1 = _ from hdep 1 (by simp [depH])), updV_self (show updV x 1 _ 4 = _ from e4), updV_self (show updV (updV x 1 _) 4 _ 7 = _ from hdep 7 (by simp [depH])), updV_self (show updV (updV (updV x 1 _) 4 _) 7 _ 8 = _ from hdep 8 (by simp [depH])), updV_self (show updV (updV (updV (updV x 1 _) 4 _) 7 _) 8 _ 15 = _ from hdep 15 (by simp [depH]))]
          exact OI_value rfl rfl (about_none (by intro c h; cases h)) (by intro c h; cases h) (.agg (headC false (.slice a4 n4 c4) (.slice none 0 0) 654360564 false)) W (by kernel_rfl) ⟨_, rfl, Below.refl _ _, ⟨a4, n4, c4, rfl⟩⟩
        | 17, hdi, _ =>
          obtain rfl := Option.some.inj hdi
          refine OI_value rfl rfl (about_none (by intro c h; cases h)) (by intro c h; cases h) (.pointer (some ⟨W.heap.size, 0, none⟩)) (W.alloc (.cells head0 25)) (exec_alloc_row 25 rfl head0 (by kernel_rfl)) ?_
          exact ⟨_, rfl, (Below.refl _ W).alloc (Nat.le_refl _) _, ⟨_, rfl, hW.size, Row.new _ _ _⟩⟩
        | _ + 18, hdi, _ => simp at hdi
      case last3 =>
        intro x U hU hx
        obtain ⟨a4, n4, c4, e16⟩ := hx 16 (by decide)
        obtain ⟨G, e17, hgl, rU⟩ := hx 17 (by decide)
        rw [updV_self e16, updV_self (show updV x 16 _ 17 = _ from e17)]
        refine OI_skip rfl rfl (about_none (by intro c h; cases h)) (by intro c h; cases h) (U.setRow G (headC false (.slice a4 n4 c4) (.slice none 0 0) 654360564 false)) (run_store_row 25 _ _ rfl G (headC false (.slice a4 n4 c4) (.slice none 0 0) 654360564 false) (by kernel_rfl) (by kernel_rfl) _ _ rU 5 (by kernel_rfl) (by rfl) (by rfl) (by simp [Value.oneCell'])) ?_
        exact ⟨by kernel_rfl, G, a4, n4, c4, rfl, hgl, rU.put _, bSetRow hU hgl _⟩
      case done3 =>
        rintro x U ⟨G, a4, n4, c4, e17, hgl, rU, bU⟩
        simp only [putsV, Act.put, List.setIfInBounds_toArray, List.set_cons_succ, List.set_cons_zero, Nat.reduceAdd, e17]
        generalize x 0 = y0, x 1 = y1, x 2 = y2, x 3 = y3, x 4 = y4, x 5 = y5, x 6 = y6, x 7 = y7, x 8 = y8, x 9 = y9, x 10 = y10, x 11 = y11, x 12 = y12, x 13 = y13, x 14 = y14, x 15 = y15, x 16 = y16
        have S10 := veil (S9.out.below bU)
        have R10 := veil (R9.out.below bU R9.out.lt)
        have P10 := veil (P9.out.below bU)
        have RG := veil rU
        have HGL := veil hgl
        have HNE := veil (show w.heap.size + 1 ≠ G by have := S9.out.rh.lt; omega)
        obtain ⟨gp', cp', ep, hgp, hcp⟩ := P10.out
        have HPL := veil (show gp < U.heap.size by injection ep with e1; injection e1 with e1; injection e1 with e1; rw [e1]; exact hgp)
        have HPC := veil (show U.cell? ⟨gp, 0, none⟩ = some (.int .u8 1) by injection ep with e1; injection e1 with e1; injection e1 with e1; rw [e1]; exact hcp)
        have HPX := veil (show gp ≠ w.heap.size + 1 by
          intro e
          have hx := S10.out.rh.cell 0
          have hy := HPC.out
          rw [e, hx] at hy
          cases hy)
        clear e17 rU bU hgl ep hgp hcp gp' cp'
        obtain ⟨H1, hH1⟩ : ∃ H, w.heap.size + 1 = H := ⟨_, rfl⟩
        have RH := veil S10.out.rh
        rw [hH1] at RH HNE HPX
        rw [hH1]
        have b0 : U.cell? ⟨G, 0, none⟩ = some (.bool false) := RG.out.cell 0
        have b1 : U.cell? ⟨G, 1, none⟩ = some (.slice a4 n4 c4) := RG.out.cell 1
        have b2 : U.cell? ⟨G, 2, none⟩ = some (.slice none 0 0) := RG.out.cell 2
        have b3 : U.cell? ⟨G, 3, none⟩ = some (.int .u64 654360564) := RG.out.cell 3
        have b4 : U.cell? ⟨G, 4, none⟩ = some (.bool false) := RG.out.cell 4
        have q0 : U.cell? ⟨H1, 0, none⟩ = some (.bool false) := RH.out.cell 0
        have q1 : U.cell? ⟨H1, 1, none⟩ = some (.slice none 0 0) := RH.out.cell 1
        have q2 : U.cell? ⟨H1, 2, none⟩ = some (.slice none 0 0) := RH.out.cell 2
        have q3 : U.cell? ⟨H1, 3, none⟩ = some (.int .u64 0) := RH.out.cell 3
        have q4 : U.cell? ⟨H1, 4, none⟩ = some (.bool false) := RH.out.cell 4
        have f0 : U.frozen? ⟨H1, 0, none⟩ = false := RH.out.frozen 0
        have f1 : U.frozen? ⟨H1, 1, none⟩ = false := RH.out.frozen 1
        have f2 : U.frozen? ⟨H1, 2, none⟩ = false := RH.out.frozen 2
        have f3 : U.frozen? ⟨H1, 3, none⟩ = false := RH.out.frozen 3
        have f4 : U.frozen? ⟨H1, 4, none⟩ = false := RH.out.frozen 4
        have r0 : U.cell? ⟨F, 0, none⟩ = some (.slice (some ⟨g, 0, none⟩) 21 cap) := R10.out.cell 0
        have hne3 : H1 ≠ G := HNE.out
        have HH1 := veil hH1
        have HFH := veil (show F ≠ H1 by
          intro e
          have hx := RH.out.cell 0
          have hy := R10.out.cell 0
          rw [e, hx] at hy
          cases hy)
        have hne4 : F ≠ H1 := HFH.out
        clear hH1
        go_wp2_with fail
        go_region
        have RF : Hid (Row (((((U.setCell ⟨H1, 0, none⟩ (.bool false)).setCell ⟨H1, 1, none⟩ (.slice a4 n4 c4)).setCell ⟨H1, 2, none⟩ (.slice none 0 0)).setCell ⟨H1, 3, none⟩ (.int .u64 654360564)).setCell ⟨H1, 4, none⟩ (.bool false)).drew H1 25 (headC false (.slice a4 n4 c4) (.slice none 0 0) 654360564 false)) := (((((RH.out.set 0 _).set 1 _).set 2 _).set 3 _).set 4 _).drew
        have hHw : w.heap.size ≤ H1 := by have := HH1.out; omega
        have BF : Hid (Below w.heap.size w (((((U.setCell ⟨H1, 0, none⟩ (.bool false)).setCell ⟨H1, 1, none⟩ (.slice a4 n4 c4)).setCell ⟨H1, 2, none⟩ (.slice none 0 0)).setCell ⟨H1, 3, none⟩ (.int .u64 654360564)).setCell ⟨H1, 4, none⟩ (.bool false)).drew) := (((((S10.out.bel.setCell (p := ⟨H1, 0, none⟩) hHw _).setCell (p := ⟨H1, 1, none⟩) hHw _).setCell (p := ⟨H1, 2, none⟩) hHw _).setCell (p := ⟨H1, 3, none⟩) hHw _).setCell (p := ⟨H1, 4, none⟩) hHw _).drew
        have CF : Hid (((((((U.setCell ⟨H1, 0, none⟩ (.bool false)).setCell ⟨H1, 1, none⟩ (.slice a4 n4 c4)).setCell ⟨H1, 2, none⟩ (.slice none 0 0)).setCell ⟨H1, 3, none⟩ (.int .u64 654360564)).setCell ⟨H1, 4, none⟩ (.bool false)).drew).cell? ⟨gp, 0, none⟩ = some (.int .u8 1)) := by
          have hb : ∀ (V : World) (j : Nat) (v : Value), (V.setCell ⟨H1, j, none⟩ v).cell? ⟨gp, 0, none⟩ = V.cell? ⟨gp, 0, none⟩ := fun V j v => World.cell?_of_block (a := ⟨gp, 0, none⟩) (heap_setCell_other V ⟨H1, j, none⟩ gp v HPX.out)
          show (((((U.setCell ⟨H1, 0, none⟩ (.bool false)).setCell ⟨H1, 1, none⟩ (.slice a4 n4 c4)).setCell ⟨H1, 2, none⟩ (.slice none 0 0)).setCell ⟨H1, 3, none⟩ (.int .u64 654360564)).setCell ⟨H1, 4, none⟩ (.bool false)).cell? ⟨gp, 0, none⟩ = _
          rw [hb, hb, hb, hb, hb]
          exact HPC.out
        clear b0 b1 b2 b3 b4 q0 q1 q2 q3 q4 f0 f1 f2 f3 f4 r0 hHw
        generalize (((((U.setCell ⟨H1, 0, none⟩ (.bool false)).setCell ⟨H1, 1, none⟩ (.slice a4 n4 c4)).setCell ⟨H1, 2, none⟩ (.slice none 0 0)).setCell ⟨H1, 3, none⟩ (.int .u64 654360564)).setCell ⟨H1, 4, none⟩ (.bool false)).drew = wf at *
        go_wp2_with fail
        exact bodyPost_ret (result_four rfl _ _ H1 _ _ RF.out 5 _ _ _ _ rfl rfl rfl rfl Tryz.underlying25 (by kernel_rfl) rfl) rfl ⟨_, _, _, gp, cp, rfl, CF.out, BF.out⟩
end Go.Proofs.YtbheoldakmcppaaGreatDoor

/-! The chapter's packet: lives answers yes. -/
namespace Go.Proofs.YtbheoldakmcppaaGreatDoor
open Go Go.RowKit

set_option maxRecDepth 20000 in
set_option maxHeartbeats 1000000 in
theorem known_any13 (w : World) : Calls Tryz.prog 70 #[] w fun e w' => ∃ p : SL, e = .returned (.slice p.a p.len p.cap) ∧ p.Ok w' ∧ p.b = knownV ∧ Below w.heap.size w w' := by
  go_enter Tryz.func70, Tryz.ntmps70
  go_wp2_with fail
  refine (unhex_any knownT (by decide) w).mono ?_
  rintro e1 w1 ⟨p, rfl, hp, hpb, hb1⟩
  rw [hex_known] at hpb
  have HP := veil hp
  have HPB := veil hpb
  have HB := veil hb1
  clear hp hpb hb1
  go_wp2_with fail
  go_ret
  exact ⟨p, rfl, HP.out, HPB.out, HB.out⟩

def nilS : SL := ⟨none, 0, 0, 0, 0, []⟩
theorem nilS_ok (w : World) : nilS.Ok w := ⟨rfl, Nat.le_refl _, fun _ => ⟨rfl, rfl⟩, fun p => absurd p (Nat.lt_irrefl _), fun p => absurd p (Nat.lt_irrefl _), fun _ p => absurd p (Nat.not_lt_zero _)⟩
def hdV : HD := ⟨false, nilS, nilS, 654360564, false⟩
/-- The keys of the chapter. -/
abbrev ksV (g0 g1 g2 : Nat) : KS := ⟨⟨some ⟨g0, 0, none⟩, 32, 32, g0, 0, keyV12⟩, ⟨some ⟨g1, 0, none⟩, 12, 12, g1, 0, ivV12⟩, ⟨some ⟨g2, 0, none⟩, 32, 32, g2, 0, hpV12⟩⟩
/-- Between two steps of lives. -/
structure LvW (g0 g1 g2 GK : Nat) (w W : World) : Prop where
  bel : Below w.heap.size w W
  rk : Row W GK 27 (ksV g0 g1 g2).cells
  hk : (ksV g0 g1 g2).Ok W
  hg : Glob W
theorem LvW.below {g0 g1 g2 GK : Nat} {w W W' : World} (s : LvW g0 g1 g2 GK w W) (hb : Below W.heap.size W W') : LvW g0 g1 g2 GK w W' :=
  ⟨s.bel.trans (hb.mono s.bel.size), s.rk.below hb s.rk.lt, s.hk.below hb, s.hg.below hb (Nat.le_refl _)⟩

set_option maxRecDepth 20000 in
set_option maxHeartbeats 2000000 in
theorem lives13 (w : World) (hg : Glob w) : Calls Tryz.prog 17 #[] w fun e w' => e = .returned (.bool true) ∧ Below w.heap.size w w' := by
  have HG := veil hg
  clear hg
  go_enter Tryz.func17, Tryz.ntmps17
  go_wp2_with fail
  refine (known_any13 w).mono ?_
  rintro e1 w1 ⟨p, rfl, hp, hpb, hb1⟩
  have hpl : p.len = 32 := by rw [← hp.hb, hpb]; rfl
  have HP := veil hp
  have HPB := veil hpb
  have HPL := veil hpl
  have B1 := veil hb1
  clear hp hpb hb1 hpl
  go_wp2_with fail
  refine (of_any p w1 HP.out HPL.out).mono ?_
  rintro e2 w2 ⟨g0, g1, g2, rfl, ho0, ho1, ho2, _, _, hb2⟩
  rw [HPB.out, vec_key12] at ho0
  rw [HPB.out, vec_iv12] at ho1
  rw [HPB.out, vec_hp12] at ho2
  have b2 := B1.out.trans (hb2.mono B1.out.size)
  have b5 : Below w2.heap.size w2 (((w2.alloc (.cells #[.slice (some ⟨g0, 0, none⟩) 32 32, .slice (some ⟨g1, 0, none⟩) 12 12, .slice (some ⟨g2, 0, none⟩) 32 32] 27)).alloc (.cells #[.bool false, .slice none 0 0, .slice none 0 0, .int .u64 654360564, .bool false] 25)).alloc (.cells #[.int .u8 1] 5)) := (((Below.refl _ w2).alloc (Nat.le_refl _) _).alloc (by simp) _).alloc (by simp <;> omega) _
  have S5 : Hid (LvW g0 g1 g2 w2.heap.size w (((w2.alloc (.cells #[.slice (some ⟨g0, 0, none⟩) 32 32, .slice (some ⟨g1, 0, none⟩) 12 12, .slice (some ⟨g2, 0, none⟩) 32 32] 27)).alloc (.cells #[.bool false, .slice none 0 0, .slice none 0 0, .int .u64 654360564, .bool false] 25)).alloc (.cells #[.int .u8 1] 5))) := by
    have k2 : (ksV g0 g1 g2).Ok w2 := ⟨own_okB ho0, own_okB ho1, own_okB ho2⟩
    exact ⟨b2.trans (b5.mono b2.size), ((Row.new _ _ _).alloc _).alloc _, k2.below b5, HG.out.below (b2.trans (b5.mono b2.size)) (Nat.le_refl _)⟩
  have e1 : (w2.alloc (.cells #[.slice (some ⟨g0, 0, none⟩) 32 32, .slice (some ⟨g1, 0, none⟩) 12 12, .slice (some ⟨g2, 0, none⟩) 32 32] 27)).heap.size = w2.heap.size + 1 := by simp
  have RH5 : Hid (Row (((w2.alloc (.cells #[.slice (some ⟨g0, 0, none⟩) 32 32, .slice (some ⟨g1, 0, none⟩) 12 12, .slice (some ⟨g2, 0, none⟩) 32 32] 27)).alloc (.cells #[.bool false, .slice none 0 0, .slice none 0 0, .int .u64 654360564, .bool false] 25)).alloc (.cells #[.int .u8 1] 5)) (w2.heap.size + 1) 25 hdV.cells) := by
    have : Row (((w2.alloc (.cells #[.slice (some ⟨g0, 0, none⟩) 32 32, .slice (some ⟨g1, 0, none⟩) 12 12, .slice (some ⟨g2, 0, none⟩) 32 32] 27)).alloc (.cells #[.bool false, .slice none 0 0, .slice none 0 0, .int .u64 654360564, .bool false] 25)).alloc (.cells #[.int .u8 1] 5)) (w2.alloc (.cells #[.slice (some ⟨g0, 0, none⟩) 32 32, .slice (some ⟨g1, 0, none⟩) 12 12, .slice (some ⟨g2, 0, none⟩) 32 32] 27)).heap.size 25 hdV.cells := (Row.new _ _ _).alloc _
    rw [e1] at this
    exact this
  have e2 : ((w2.alloc (.cells #[.slice (some ⟨g0, 0, none⟩) 32 32, .slice (some ⟨g1, 0, none⟩) 12 12, .slice (some ⟨g2, 0, none⟩) 32 32] 27)).alloc (.cells #[.bool false, .slice none 0 0, .slice none 0 0, .int .u64 654360564, .bool false] 25)).heap.size = w2.heap.size + 1 + 1 := by simp
  have RP5 : Hid (Row (((w2.alloc (.cells #[.slice (some ⟨g0, 0, none⟩) 32 32, .slice (some ⟨g1, 0, none⟩) 12 12, .slice (some ⟨g2, 0, none⟩) 32 32] 27)).alloc (.cells #[.bool false, .slice none 0 0, .slice none 0 0, .int .u64 654360564, .bool false] 25)).alloc (.cells #[.int .u8 1] 5)) (w2.heap.size + 1 + 1) 5 (bs [1])) := by
    have : Row (((w2.alloc (.cells #[.slice (some ⟨g0, 0, none⟩) 32 32, .slice (some ⟨g1, 0, none⟩) 12 12, .slice (some ⟨g2, 0, none⟩) 32 32] 27)).alloc (.cells #[.bool false, .slice none 0 0, .slice none 0 0, .int .u64 654360564, .bool false] 25)).alloc (.cells #[.int .u8 1] 5)) ((w2.alloc (.cells #[.slice (some ⟨g0, 0, none⟩) 32 32, .slice (some ⟨g1, 0, none⟩) 12 12, .slice (some ⟨g2, 0, none⟩) 32 32] 27)).alloc (.cells #[.bool false, .slice none 0 0, .slice none 0 0, .int .u64 654360564, .bool false] 25)).heap.size 5 (bs [1]) := Row.new _ _ _
    rw [e2] at this
    exact this
  clear ho0 ho1 ho2 hb2 b2 b5 e1 e2 HP HPB HPL B1
  go_wp2_with fail
  generalize ((w2.alloc (.cells #[.slice (some ⟨g0, 0, none⟩) 32 32, .slice (some ⟨g1, 0, none⟩) 12 12, .slice (some ⟨g2, 0, none⟩) 32 32] 27)).alloc (.cells #[.bool false, .slice none 0 0, .slice none 0 0, .int .u64 654360564, .bool false] 25)).alloc (.cells #[.int .u8 1] 5) = w5 at *
  obtain ⟨GK, hGK⟩ : ∃ G, w2.heap.size = G := ⟨_, rfl⟩
  rw [hGK] at S5 RH5 RP5
  rw [hGK]
  clear hGK
  refine (packSeal_any hdV 3 (rowN (GK + 1 + 1) 1 [1]) (ksV g0 g1 g2) w5 S5.out.hg ⟨nilS_ok _, nilS_ok _⟩ (rowN_ok RP5.out rfl) S5.out.hk (by show 1 ≤ 140737488351232; decide) (by decide) (by decide)).mono ?_
  rintro e6 w6 ⟨v6, rfl, own6, hb6⟩
  have hE : packE hdV.ph 3 (rowN (GK + 1 + 1) 1 [1]).b (ksV g0 g1 g2).key.b (ksV g0 g1 g2).iv.b (ksV g0 g1 g2).mask.b = 0 := packE_v13
  have hO : packO hdV.ph 3 (rowN (GK + 1 + 1) 1 [1]).b (ksV g0 g1 g2).key.b (ksV g0 g1 g2).iv.b (ksV g0 g1 g2).mask.b = packV13 := packO_v13
  rw [hO] at own6
  rw [hE]
  replace own6 : w6.ownsRow w5.heap.size 5 1 v6 21 (vb packV13) := own6
  obtain ⟨g, c, rfl, hc⟩ := own_someB own6 (by decide)
  have S6 := veil (S5.out.below hb6)
  have RH6 := veil (RH5.out.below hb6 RH5.out.lt)
  have O6 := veil own6
  have k0 := KS.c0 S6.out.rk
  have k1 := KS.c1 S6.out.rk
  have k2 := KS.c2 S6.out.rk
  clear hE hO own6 hb6 hc S5 RH5 RP5
  go_wp2_with fail
  clear k0 k1 k2
  refine (open_v13 g c (ksV g0 g1 g2) w6 S6.out.hg (own_okB O6.out) S6.out.hk rfl rfl rfl).mono ?_
  rintro e7 w7 ⟨va, vn, vc, gp, cp, rfl, hp7, hb7⟩
  have B7 := veil (S6.out.bel.trans (hb7.mono S6.out.bel.size))
  have b8 : Below w7.heap.size w7 (w7.alloc (.cells #[.bool false, .slice va vn vc, .slice none 0 0, .int .u64 654360564, .bool false] 25)) := (Below.refl _ w7).alloc (Nat.le_refl _) _
  have RH8 := (RH6.out.below hb7 RH6.out.lt).alloc (.cells #[.bool false, .slice va vn vc, .slice none 0 0, .int .u64 654360564, .bool false] 25)
  have O8 := own_below (own_below O6.out hb7) b8
  have B8 := veil (B7.out.trans (b8.mono B7.out.size))
  have hgp : gp < w7.heap.size := by
    rcases Nat.lt_or_ge gp w7.heap.size with h | h
    · exact h
    · exfalso
      have : w7.heap[gp]? = none := Array.getElem?_eq_none h
      unfold World.cell? at hp7
      simp [this] at hp7
  have c0 : (w7.alloc (.cells #[.bool false, .slice va vn vc, .slice none 0 0, .int .u64 654360564, .bool false] 25)).cell? ⟨g, 0, none⟩ = some (.int .u8 76) := own_cellB O8 (j := 0) (by decide)
  have c1 : (w7.alloc (.cells #[.bool false, .slice va vn vc, .slice none 0 0, .int .u64 654360564, .bool false] 25)).cell? ⟨g, 1, none⟩ = some (.int .u8 254) := own_cellB O8 (j := 1) (by decide)
  have c20 : (w7.alloc (.cells #[.bool false, .slice va vn vc, .slice none 0 0, .int .u64 654360564, .bool false] 25)).cell? ⟨g, 20, none⟩ = some (.int .u8 251) := own_cellB O8 (j := 20) (by decide)
  have cp0 : (w7.alloc (.cells #[.bool false, .slice va vn vc, .slice none 0 0, .int .u64 654360564, .bool false] 25)).cell? ⟨gp, 0, none⟩ = some (.int .u8 1) := (b8.cell (p := ⟨gp, 0, none⟩) hgp).trans hp7
  have ch3 : (w7.alloc (.cells #[.bool false, .slice va vn vc, .slice none 0 0, .int .u64 654360564, .bool false] 25)).cell? ⟨GK + 1, 3, none⟩ = some (.int .u64 654360564) := HD.c3 RH8
  have cx3 : (w7.alloc (.cells #[.bool false, .slice va vn vc, .slice none 0 0, .int .u64 654360564, .bool false] 25)).cell? ⟨w7.heap.size, 3, none⟩ = some (.int .u64 654360564) := (Row.new w7 25 #[.bool false, .slice va vn vc, .slice none 0 0, .int .u64 654360564, .bool false]).cell 3
  clear hp7 hb7 b8 RH8 O8 hgp S6 RH6 O6 B7
  go_wp2_with fail
  go_ret
  exact ⟨rfl, B8.out⟩
end Go.Proofs.YtbheoldakmcppaaGreatDoor
