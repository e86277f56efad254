/-
  Out of PkTwin, PkLeft.
-/
import Derived.Test.YtbheoldakmcppaaGreatDoorGs24
import Derived.Test.YtbheoldakmcppaaGreatDoorGs5
import Derived.Test.YtbheoldakmcppaaGreatDoorGs41
import Derived.Test.YtbheoldakmcppaaGreatDoorGs42

/-! What the law's TwinHeader and TwinKeys do. Written by mktw13.py. -/
namespace Go.Proofs.YtbheoldakmcppaaGreatDoor
open Go Go.RowKit

/-- A copy with room for its mark. -/
abbrev tw13 (g n : Nat) : Value := .slice (some ⟨g, 0, none⟩) n (n + 1)
theorem own_setRow {w : World} {B e z n : Nat} {v : Value} {xs : List Value} (h : w.ownsRow B e z v n xs) (g : Nat) (cs : Array Value) (hp : ∀ j, v.ownBlock = some j → j ≠ g) : (w.setRow g cs).ownsRow B e z v n xs :=
  h.kept (row := some g) ⟨rfl, rfl, rfl, by simp, fun b _ hb => setRow_other w g b cs (fun e => hb (by rw [e]))⟩ (by
    cases hv : v.ownBlock with
    | none => exact .inl rfl
    | some j => exact .inr (fun e => hp j hv (Option.some.inj e)))
theorem Twin.setRow {w : World} {g : Nat} {b : List By} (h : Twin w g b) (k : Nat) (cs : Array Value) (hk : g ≠ k) : Twin (w.setRow k cs) g b :=
  ⟨by rw [setRow_size]; exact h.lt, fun j hj => (World.cell?_of_block (a := ⟨g, j, none⟩) (setRow_other w k g cs hk)).trans (h.cell j hj), (World.cell?_of_block (a := ⟨g, b.length, none⟩) (setRow_other w k g cs hk)).trans h.mark⟩

def depTH : Nat → List Nat
  | 1 => [0]
  | 3 => [2]
  | 4 => [3]
  | 6 => [5]
  | 7 => [6, 4]
  | 9 => [8]
  | 11 => [10]
  | 12 => [1, 4, 7, 9, 11]
  | 13 => [0, 1, 2, 3, 4, 5, 6, 7, 8, 9, 10, 11, 12]
  | _ => []
def valTH (h : HD) (G0 B : Nat) : Nat → (Nat → Value) → World → Value → Prop
  | 0, _, _, v => v = .pointer (some ⟨G0, 0, none⟩)
  | 1, _, _, v => v = .bool h.long
  | 2, _, _, v => v = .pointer (some ⟨G0, 1, none⟩)
  | 3, _, _, v => v = .slice h.tu.a h.tu.len h.tu.cap
  | 4, _, W, v => ∃ g, v = tw13 g h.tu.len ∧ Twin W g h.tu.b ∧ W.ownsRow B 5 1 (tw13 g h.tu.len) h.tu.len (vb h.tu.b)
  | 5, _, _, v => v = .pointer (some ⟨G0, 2, none⟩)
  | 6, _, _, v => v = .slice h.fr.a h.fr.len h.fr.cap
  | 7, x, W, v => ∃ g1 g, x 4 = tw13 g1 h.tu.len ∧ v = tw13 g h.fr.len ∧ g1 < g ∧ Twin W g h.fr.b ∧ W.ownsRow B 5 1 (tw13 g h.fr.len) h.fr.len (vb h.fr.b)
  | 8, _, _, v => v = .pointer (some ⟨G0, 3, none⟩)
  | 9, _, _, v => v = .int .u64 (h.num : Int)
  | 10, _, _, v => v = .pointer (some ⟨G0, 4, none⟩)
  | 11, _, _, v => v = .bool h.phase
  | 12, x, _, v => v = .agg (headC h.long (x 4) (x 7) h.num h.phase)
  | _, _, _, _ => True
theorem valTH_mono {h : HD} {G0 B : Nat} : ∀ (j : Nat) (x : Nat → Value) (W W' : World) (v : Value), Below W.heap.size W W' → valTH h G0 B j x W v → valTH h G0 B j x W' v
  | 0, _, _, _, _, _, h => h
  | 1, _, _, _, _, _, h => h
  | 2, _, _, _, _, _, h => h
  | 3, _, _, _, _, _, h => h
  | 4, _, _, _, _, hb, ⟨g, h1, h2, h3⟩ => ⟨g, h1, h2.below hb, own_below h3 hb⟩
  | 5, _, _, _, _, _, h => h
  | 6, _, _, _, _, _, h => h
  | 7, _, _, _, _, hb, ⟨g1, g, h0, h1, h2, h3, h4⟩ => ⟨g1, g, h0, h1, h2, h3.below hb, own_below h4 hb⟩
  | 8, _, _, _, _, _, h => h
  | 9, _, _, _, _, _, h => h
  | 10, _, _, _, _, _, h => h
  | 11, _, _, _, _, _, h => h
  | 12, _, _, _, _, _, h => h
  | _ + 13, _, _, _, _, _, _ => trivial
theorem valTH_loc {h : HD} {G0 B : Nat} : ∀ (i : Nat) (x y : Nat → Value) (W : World) (v : Value), (∀ j ∈ depTH i, x j = y j) → valTH h G0 B i x W v → valTH h G0 B i y W v
  | 0, _, _, _, _, _, h => h
  | 1, _, _, _, _, _, h => h
  | 2, _, _, _, _, _, h => h
  | 3, _, _, _, _, _, h => h
  | 4, _, _, _, _, _, h => h
  | 5, _, _, _, _, _, h => h
  | 6, _, _, _, _, _, h => h
  | 7, _, _, _, _, hd, ⟨g1, g, h0, h⟩ => ⟨g1, g, (hd 4 (by simp [depTH])).symm.trans h0, h⟩
  | 8, _, _, _, _, _, h => h
  | 9, _, _, _, _, _, h => h
  | 10, _, _, _, _, _, h => h
  | 11, _, _, _, _, _, h => h
  | 12, x, y, _, v, hd, hv => by
    show v = .agg (headC h.long (y 4) (y 7) h.num h.phase)
    rw [← hd 4 (by simp [depTH]), ← hd 7 (by simp [depTH])]
    exact hv
  | _ + 13, _, _, _, _, _, _ => trivial
theorem depTH_all (j : Nat) (hj : j < 13) : j ∈ depTH 13 := by
  have h : j = 0 ∨ j = 1 ∨ j = 2 ∨ j = 3 ∨ j = 4 ∨ j = 5 ∨ j = 6 ∨ j = 7 ∨ j = 8 ∨ j = 9 ∨ j = 10 ∨ j = 11 ∨ j = 12 := by omega
  rcases h with rfl | rfl | rfl | rfl | rfl | rfl | rfl | rfl | rfl | rfl | rfl | rfl | rfl <;> decide
set_option maxRecDepth 20000 in
set_option maxHeartbeats 2000000 in
theorem twinHeader_any (h : HD) (w : World) (hk : h.Ok w) (l1 : h.tu.len ≤ 140737488351232) (l2 : h.fr.len ≤ 140737488351232) :
    Calls Tryz.prog 4 #[.agg h.cells] w fun e w' => ∃ g1 g2, e = .returned (.agg (headC h.long (tw13 g1 h.tu.len) (tw13 g2 h.fr.len) h.num h.phase)) ∧ Twin w' g1 h.tu.b ∧ w'.ownsRow w.heap.size 5 1 (tw13 g1 h.tu.len) h.tu.len (vb h.tu.b) ∧ Twin w' g2 h.fr.b ∧ w'.ownsRow w.heap.size 5 1 (tw13 g2 h.fr.len) h.fr.len (vb h.fr.b) ∧ g1 < g2 ∧ Below w.heap.size w w' := by
  obtain ⟨w0, hw0⟩ : ∃ W, (w.alloc (.cells h.cells 25)).alloc (.cells (headC false (.slice none 0 0) (.slice none 0 0) 0 false) 25) = W := ⟨_, rfl⟩
  have b0 : Below w.heap.size w w0 := by rw [← hw0]; exact ((Below.refl _ w).alloc (Nat.le_refl _) _).alloc (by simp) _
  have r0 : Row w0 w.heap.size 25 h.cells := by rw [← hw0]; exact (Row.new _ _ _).alloc _
  have r1 : Row w0 (w.heap.size + 1) 25 (headC false (.slice none 0 0) (.slice none 0 0) 0 false) := by rw [← hw0]; exact Row.new1 _ _ _ _
  have B0 := veil b0
  have R0 := veil r0
  have R1 := veil r1
  have K1 := veil (hk.tu.below b0)
  have L1 := veil l1
  have K2 := veil (hk.fr.below b0)
  have L2 := veil l2
  have HW := veil hw0
  clear b0 r0 r1 hk hw0 l1 l2
  refine (callsIn_wide (n := 4)).1 ?_
  refine callsIn_of_wp Tryz.func4 rfl trivial ?_ rfl
  simp only [Tryz.ntmps4, List.size_toArray, List.length_cons, List.length_nil, Nat.reduceAdd, Nat.reduceSub, Array.replicate_succ, Array.replicate_zero, List.push_toArray, List.append_toArray, List.nil_append, List.cons_append]
  gi_wp2_with fail
  show Code.wpIn _ _ _ _ _ _ ((w.alloc (.cells h.cells 25)).alloc (.cells (headC false (.slice none 0 0) (.slice none 0 0) 0 false) 25))
  rw [HW.out]
  refine wpIn_region_any (by kernel_rfl) ?_
  refine anyIn_storeD (w0 := w0) (valTH h w.heap.size w0.heap.size) valTH_mono [3, 4, 5, 6, 7, 8, 9, 10, 11, 12, 13, 14, 15] depTH valTH_loc (by kernel_rfl) rfl (by decide) depTH_all ((Below.refl _ _).drew) (fun _ W => ∃ g1 g2, Row W (w.heap.size + 1) 25 (headC h.long (tw13 g1 h.tu.len) (tw13 g2 h.fr.len) h.num h.phase) ∧ Twin W g1 h.tu.b ∧ W.ownsRow w.heap.size 5 1 (tw13 g1 h.tu.len) h.tu.len (vb h.tu.b) ∧ Twin W g2 h.fr.b ∧ W.ownsRow w.heap.size 5 1 (tw13 g2 h.fr.len) h.fr.len (vb h.fr.b) ∧ g1 < g2 ∧ Below w.heap.size w W) ?step ?last ?done
  case step =>
    intro x W i e hW hdi hdep
    match i, hdi, hdep with
    | 0, hdi, _ =>
      obtain rfl := Option.some.inj hdi
      exact OI_value rfl rfl (about_none (by intro c h; cases h)) (by intro c h; cases h) (.pointer (some ⟨w.heap.size, 0, none⟩)) W (by kernel_rfl) ⟨_, rfl, Below.refl _ _, rfl⟩
    | 1, hdi, hdep =>
      obtain rfl := Option.some.inj hdi
      rw [updV_self (show x 0 = _ from hdep 0 (by simp [depTH]))]
      exact OI_value rfl rfl (about_none (by intro c h; cases h)) (by intro c h; cases h) (.bool h.long) W (run_cell 4 _ ⟨w.heap.size, 0, none⟩ _ _ rfl (by kernel_rfl) Tryz.underlying4 rfl W ((R0.out.below hW R0.out.lt).cell 0)) ⟨_, rfl, Below.refl _ _, rfl⟩
    | 2, hdi, _ =>
      obtain rfl := Option.some.inj hdi
      exact OI_value rfl rfl (about_none (by intro c h; cases h)) (by intro c h; cases h) (.pointer (some ⟨w.heap.size, 1, none⟩)) W (by kernel_rfl) ⟨_, rfl, Below.refl _ _, rfl⟩
    | 3, hdi, hdep =>
      obtain rfl := Option.some.inj hdi
      rw [updV_self (show x 2 = _ from hdep 2 (by simp [depTH]))]
      exact OI_value rfl rfl (about_none (by intro c h; cases h)) (by intro c h; cases h) (.slice h.tu.a h.tu.len h.tu.cap) W (run_cell 22 _ ⟨w.heap.size, 1, none⟩ _ _ rfl (by kernel_rfl) Tryz.underlying22 rfl W ((R0.out.below hW R0.out.lt).cell 1)) ⟨_, rfl, Below.refl _ _, rfl⟩
    | 4, hdi, hdep =>
      obtain rfl := Option.some.inj hdi
      rw [updV_self (show x 3 = _ from hdep 3 (by simp [depTH]))]
      refine OI_call rfl rfl (by intro c h; cases h) 5 #[.slice h.tu.a h.tu.len h.tu.cap] (fun _ _ => trivial) (by kernel_rfl) (by decide) ?_
      refine (callsIn_wide.2 (twin_own h.tu W (K1.out.below hW) L1.out)).mono ?_
      rintro e w' ⟨g, rfl, ht, hown, hb'⟩
      exact ⟨_, rfl, _, rfl, hb', ⟨g, rfl, ht, own_low hown hW.size⟩⟩
    | 5, hdi, _ =>
      obtain rfl := Option.some.inj hdi
      exact OI_value rfl rfl (about_none (by intro c h; cases h)) (by intro c h; cases h) (.pointer (some ⟨w.heap.size, 2, none⟩)) W (by kernel_rfl) ⟨_, rfl, Below.refl _ _, rfl⟩
    | 6, hdi, hdep =>
      obtain rfl := Option.some.inj hdi
      rw [updV_self (show x 5 = _ from hdep 5 (by simp [depTH]))]
      exact OI_value rfl rfl (about_none (by intro c h; cases h)) (by intro c h; cases h) (.slice h.fr.a h.fr.len h.fr.cap) W (run_cell 22 _ ⟨w.heap.size, 2, none⟩ _ _ rfl (by kernel_rfl) Tryz.underlying22 rfl W ((R0.out.below hW R0.out.lt).cell 2)) ⟨_, rfl, Below.refl _ _, rfl⟩
    | 7, hdi, hdep =>
      obtain rfl := Option.some.inj hdi
      obtain ⟨p, ep, tp, _⟩ := hdep 4 (by simp [depTH])
      have hp := tp.lt
      have e0 := updV_self (show x 6 = _ from hdep 6 (by simp [depTH]))
      have ep2 : updV x 6 (.slice h.fr.a h.fr.len h.fr.cap) 4 = tw13 p h.tu.len := by rw [← e0]; exact ep
      rw [e0]
      refine OI_call rfl rfl (by intro c h; cases h) 5 #[.slice h.fr.a h.fr.len h.fr.cap] (fun _ _ => trivial) (by kernel_rfl) (by decide) ?_
      refine (callsIn_wide.2 (twin_own h.fr W (K2.out.below hW) L2.out)).mono ?_
      rintro e w' ⟨g, rfl, ht, hown, hb'⟩
      exact ⟨_, rfl, _, rfl, hb', ⟨p, g, ep2, rfl, Nat.lt_of_lt_of_le hp (hown.lt g rfl).1, ht, own_low hown hW.size⟩⟩
    | 8, hdi, _ =>
      obtain rfl := Option.some.inj hdi
      exact OI_value rfl rfl (about_none (by intro c h; cases h)) (by intro c h; cases h) (.pointer (some ⟨w.heap.size, 3, none⟩)) W (by kernel_rfl) ⟨_, rfl, Below.refl _ _, rfl⟩
    | 9, hdi, hdep =>
      obtain rfl := Option.some.inj hdi
      rw [updV_self (show x 8 = _ from hdep 8 (by simp [depTH]))]
      exact OI_value rfl rfl (about_none (by intro c h; cases h)) (by intro c h; cases h) (.int .u64 (h.num : Int)) W (run_cell 23 _ ⟨w.heap.size, 3, none⟩ _ _ rfl (by kernel_rfl) Tryz.underlying23 rfl W ((R0.out.below hW R0.out.lt).cell 3)) ⟨_, rfl, Below.refl _ _, rfl⟩
    | 10, hdi, _ =>
      obtain rfl := Option.some.inj hdi
      exact OI_value rfl rfl (about_none (by intro c h; cases h)) (by intro c h; cases h) (.pointer (some ⟨w.heap.size, 4, none⟩)) W (by kernel_rfl) ⟨_, rfl, Below.refl _ _, rfl⟩
    | 11, hdi, hdep =>
      obtain rfl := Option.some.inj hdi
      rw [updV_self (show x 10 = _ from hdep 10 (by simp [depTH]))]
      exact OI_value rfl rfl (about_none (by intro c h; cases h)) (by intro c h; cases h) (.bool h.phase) W (run_cell 4 _ ⟨w.heap.size, 4, none⟩ _ _ rfl (by kernel_rfl) Tryz.underlying4 rfl W ((R0.out.below hW R0.out.lt).cell 4)) ⟨_, rfl, Below.refl _ _, rfl⟩
    | 12, hdi, hdep =>
      obtain rfl := Option.some.inj hdi
      obtain ⟨g1, e1, _⟩ := hdep 4 (by simp [depTH])
      obtain ⟨_, g2, _, e2, _⟩ := hdep 7 (by simp [depTH])
      rw [updV_self (show x 1 = _ from hdep 1 (by simp [depTH])), updV_self (show updV x 1 _ 4 = _ from e1), updV_self (show updV (updV x 1 _) 4 _ 7 = _ from e2), updV_self (show updV (updV (updV x 1 _) 4 _) 7 _ 9 = _ from hdep 9 (by simp [depTH])), updV_self (show updV (updV (updV (updV x 1 _) 4 _) 7 _) 9 _ 11 = _ from hdep 11 (by simp [depTH]))]
      exact OI_value rfl rfl (about_none (by intro c h; cases h)) (by intro c h; cases h) (.agg (headC h.long (tw13 g1 h.tu.len) (tw13 g2 h.fr.len) h.num h.phase)) W (run_buildS _ _ rfl _ (by kernel_rfl) W) ⟨_, rfl, Below.refl _ _, rfl⟩
    | _ + 13, hdi, _ => simp at hdi
  case last =>
    intro x W hW hx
    obtain ⟨g1, e1, t1, o1⟩ := hx 4 (by decide)
    obtain ⟨q1, g2, p2, e2, lt1, t2, o2⟩ := hx 7 (by decide)
    obtain rfl : g1 = q1 := by rw [e1] at p2; injection p2 with h _ _; injection h with h; injection h with h
    have eb : x 12 = .agg (headC h.long (x 4) (x 7) h.num h.phase) := hx 12 (by decide)
    rw [e1, e2] at eb
    have hG1 := (R1.out.below hW R1.out.lt)
    have sz : w0.heap.size = w.heap.size + 2 := by rw [← HW.out]; simp
    have n1 : g1 ≠ w.heap.size + 1 := by have := (o1.lt g1 rfl).1; omega
    have n2 : g2 ≠ w.heap.size + 1 := by have := (o2.lt g2 rfl).1; omega
    rw [updV_self eb]
    exact OI_skip rfl rfl (about_none (by intro c h; cases h)) (by intro c h; cases h) (W.setRow (w.heap.size + 1) (headC h.long (tw13 g1 h.tu.len) (tw13 g2 h.fr.len) h.num h.phase)) (run_store_row 25 _ _ rfl (w.heap.size + 1) (headC h.long (tw13 g1 h.tu.len) (tw13 g2 h.fr.len) h.num h.phase) (by kernel_rfl) (by kernel_rfl) 25 (headC false (.slice none 0 0) (.slice none 0 0) 0 false) hG1 5 (by kernel_rfl) rfl rfl (by simp [Value.oneCell'])) ⟨put_none _ _, g1, g2, hG1.put _, t1.setRow _ _ n1, own_low (own_setRow o1 _ _ (fun j hj => by obtain rfl := Option.some.inj hj; exact n1)) B0.out.size, t2.setRow _ _ n2, own_low (own_setRow o2 _ _ (fun j hj => by obtain rfl := Option.some.inj hj; exact n2)) B0.out.size, lt1, bSetRow (B0.out.trans (hW.mono B0.out.size)) (by omega) _⟩
  case done =>
    rintro x W ⟨g1, g2, hr, h⟩
    simp only [putsV, Act.put, List.setIfInBounds_toArray, List.set_cons_succ, List.set_cons_zero, Nat.reduceAdd]
    generalize x 0 = z0, x 1 = z1, x 2 = z2, x 3 = z3, x 4 = z4, x 5 = z5, x 6 = z6, x 7 = z7, x 8 = z8, x 9 = z9, x 10 = z10, x 11 = z11, x 12 = z12
    have HR := veil hr
    have HH := veil h
    clear hr h
    gi_wp2_with fail
    exact bodyPost_ret (results_cell_row rfl _ _ (w.heap.size + 1) 25 _ (0, 0) _ rfl HR.out Tryz.underlying25 rfl (by kernel_rfl)) rfl ⟨g1, g2, rfl, HH.out⟩

def depTK : Nat → List Nat
  | 1 => [0]
  | 2 => [1]
  | 4 => [3]
  | 5 => [4, 2]
  | 7 => [6]
  | 8 => [7, 5]
  | 9 => [2, 5, 8]
  | 10 => [0, 1, 2, 3, 4, 5, 6, 7, 8, 9]
  | _ => []
def valTK (k : KS) (G0 B : Nat) : Nat → (Nat → Value) → World → Value → Prop
  | 0, _, _, v => v = .pointer (some ⟨G0, 0, none⟩)
  | 1, _, _, v => v = .slice k.key.a k.key.len k.key.cap
  | 2, _, W, v => ∃ g, v = tw13 g k.key.len ∧ Twin W g k.key.b ∧ W.ownsRow B 5 1 (tw13 g k.key.len) k.key.len (vb k.key.b)
  | 3, _, _, v => v = .pointer (some ⟨G0, 1, none⟩)
  | 4, _, _, v => v = .slice k.iv.a k.iv.len k.iv.cap
  | 5, x, W, v => ∃ g1 g, x 2 = tw13 g1 k.key.len ∧ v = tw13 g k.iv.len ∧ g1 < g ∧ Twin W g k.iv.b ∧ W.ownsRow B 5 1 (tw13 g k.iv.len) k.iv.len (vb k.iv.b)
  | 6, _, _, v => v = .pointer (some ⟨G0, 2, none⟩)
  | 7, _, _, v => v = .slice k.mask.a k.mask.len k.mask.cap
  | 8, x, W, v => ∃ g1 g, x 5 = tw13 g1 k.iv.len ∧ v = tw13 g k.mask.len ∧ g1 < g ∧ Twin W g k.mask.b ∧ W.ownsRow B 5 1 (tw13 g k.mask.len) k.mask.len (vb k.mask.b)
  | 9, x, _, v => v = .agg (keysC (x 2) (x 5) (x 8))
  | _, _, _, _ => True
theorem valTK_mono {k : KS} {G0 B : Nat} : ∀ (j : Nat) (x : Nat → Value) (W W' : World) (v : Value), Below W.heap.size W W' → valTK k G0 B j x W v → valTK k G0 B j x W' v
  | 0, _, _, _, _, _, h => h
  | 1, _, _, _, _, _, h => h
  | 2, _, _, _, _, hb, ⟨g, h1, h2, h3⟩ => ⟨g, h1, h2.below hb, own_below h3 hb⟩
  | 3, _, _, _, _, _, h => h
  | 4, _, _, _, _, _, h => h
  | 5, _, _, _, _, hb, ⟨g1, g, h0, h1, h2, h3, h4⟩ => ⟨g1, g, h0, h1, h2, h3.below hb, own_below h4 hb⟩
  | 6, _, _, _, _, _, h => h
  | 7, _, _, _, _, _, h => h
  | 8, _, _, _, _, hb, ⟨g1, g, h0, h1, h2, h3, h4⟩ => ⟨g1, g, h0, h1, h2, h3.below hb, own_below h4 hb⟩
  | 9, _, _, _, _, _, h => h
  | _ + 10, _, _, _, _, _, _ => trivial
theorem valTK_loc {k : KS} {G0 B : Nat} : ∀ (i : Nat) (x y : Nat → Value) (W : World) (v : Value), (∀ j ∈ depTK i, x j = y j) → valTK k G0 B i x W v → valTK k G0 B i y W v
  | 0, _, _, _, _, _, h => h
  | 1, _, _, _, _, _, h => h
  | 2, _, _, _, _, _, h => h
  | 3, _, _, _, _, _, h => h
  | 4, _, _, _, _, _, h => h
  | 5, _, _, _, _, hd, ⟨g1, g, h0, h⟩ => ⟨g1, g, (hd 2 (by simp [depTK])).symm.trans h0, h⟩
  | 6, _, _, _, _, _, h => h
  | 7, _, _, _, _, _, h => h
  | 8, _, _, _, _, hd, ⟨g1, g, h0, h⟩ => ⟨g1, g, (hd 5 (by simp [depTK])).symm.trans h0, h⟩
  | 9, x, y, _, v, hd, hv => by
    show v = .agg (keysC (y 2) (y 5) (y 8))
    rw [← hd 2 (by simp [depTK]), ← hd 5 (by simp [depTK]), ← hd 8 (by simp [depTK])]
    exact hv
  | _ + 10, _, _, _, _, _, _ => trivial
theorem depTK_all (j : Nat) (hj : j < 10) : j ∈ depTK 10 := by
  have h : j = 0 ∨ j = 1 ∨ j = 2 ∨ j = 3 ∨ j = 4 ∨ j = 5 ∨ j = 6 ∨ j = 7 ∨ j = 8 ∨ j = 9 := by omega
  rcases h with rfl | rfl | rfl | rfl | rfl | rfl | rfl | rfl | rfl | rfl <;> decide
set_option maxRecDepth 20000 in
set_option maxHeartbeats 2000000 in
theorem twinKeys_any (k : KS) (w : World) (hk : k.Ok w) (l1 : k.key.len ≤ 140737488351232) (l2 : k.iv.len ≤ 140737488351232) (l3 : k.mask.len ≤ 140737488351232) :
    Calls Tryz.prog 6 #[.agg k.cells] w fun e w' => ∃ g1 g2 g3, e = .returned (.agg (keysC (tw13 g1 k.key.len) (tw13 g2 k.iv.len) (tw13 g3 k.mask.len))) ∧ Twin w' g1 k.key.b ∧ w'.ownsRow w.heap.size 5 1 (tw13 g1 k.key.len) k.key.len (vb k.key.b) ∧ Twin w' g2 k.iv.b ∧ w'.ownsRow w.heap.size 5 1 (tw13 g2 k.iv.len) k.iv.len (vb k.iv.b) ∧ Twin w' g3 k.mask.b ∧ w'.ownsRow w.heap.size 5 1 (tw13 g3 k.mask.len) k.mask.len (vb k.mask.b) ∧ g1 < g2 ∧ g2 < g3 ∧ Below w.heap.size w w' := by
  obtain ⟨w0, hw0⟩ : ∃ W, (w.alloc (.cells k.cells 27)).alloc (.cells (keysC (.slice none 0 0) (.slice none 0 0) (.slice none 0 0)) 27) = W := ⟨_, rfl⟩
  have b0 : Below w.heap.size w w0 := by rw [← hw0]; exact ((Below.refl _ w).alloc (Nat.le_refl _) _).alloc (by simp) _
  have r0 : Row w0 w.heap.size 27 k.cells := by rw [← hw0]; exact (Row.new _ _ _).alloc _
  have r1 : Row w0 (w.heap.size + 1) 27 (keysC (.slice none 0 0) (.slice none 0 0) (.slice none 0 0)) := by rw [← hw0]; exact Row.new1 _ _ _ _
  have B0 := veil b0
  have R0 := veil r0
  have R1 := veil r1
  have K1 := veil (hk.key.below b0)
  have L1 := veil l1
  have K2 := veil (hk.iv.below b0)
  have L2 := veil l2
  have K3 := veil (hk.mask.below b0)
  have L3 := veil l3
  have HW := veil hw0
  clear b0 r0 r1 hk hw0 l1 l2 l3
  refine (callsIn_wide (n := 4)).1 ?_
  refine callsIn_of_wp Tryz.func6 rfl trivial ?_ rfl
  simp only [Tryz.ntmps6, List.size_toArray, List.length_cons, List.length_nil, Nat.reduceAdd, Nat.reduceSub, Array.replicate_succ, Array.replicate_zero, List.push_toArray, List.append_toArray, List.nil_append, List.cons_append]
  gi_wp2_with fail
  show Code.wpIn _ _ _ _ _ _ ((w.alloc (.cells k.cells 27)).alloc (.cells (keysC (.slice none 0 0) (.slice none 0 0) (.slice none 0 0)) 27))
  rw [HW.out]
  refine wpIn_region_any (by kernel_rfl) ?_
  refine anyIn_storeD (w0 := w0) (valTK k w.heap.size w0.heap.size) valTK_mono [3, 4, 5, 6, 7, 8, 9, 10, 11, 12] depTK valTK_loc (by kernel_rfl) rfl (by decide) depTK_all ((Below.refl _ _).drew) (fun _ W => ∃ g1 g2 g3, Row W (w.heap.size + 1) 27 (keysC (tw13 g1 k.key.len) (tw13 g2 k.iv.len) (tw13 g3 k.mask.len)) ∧ Twin W g1 k.key.b ∧ W.ownsRow w.heap.size 5 1 (tw13 g1 k.key.len) k.key.len (vb k.key.b) ∧ Twin W g2 k.iv.b ∧ W.ownsRow w.heap.size 5 1 (tw13 g2 k.iv.len) k.iv.len (vb k.iv.b) ∧ Twin W g3 k.mask.b ∧ W.ownsRow w.heap.size 5 1 (tw13 g3 k.mask.len) k.mask.len (vb k.mask.b) ∧ g1 < g2 ∧ g2 < g3 ∧ Below w.heap.size w W) ?step ?last ?done
  case step =>
    intro x W i e hW hdi hdep
    match i, hdi, hdep with
    | 0, hdi, _ =>
      obtain rfl := Option.some.inj hdi
      exact OI_value rfl rfl (about_none (by intro c h; cases h)) (by intro c h; cases h) (.pointer (some ⟨w.heap.size, 0, none⟩)) W (by kernel_rfl) ⟨_, rfl, Below.refl _ _, rfl⟩
    | 1, hdi, hdep =>
      obtain rfl := Option.some.inj hdi
      rw [updV_self (show x 0 = _ from hdep 0 (by simp [depTK]))]
      exact OI_value rfl rfl (about_none (by intro c h; cases h)) (by intro c h; cases h) (.slice k.key.a k.key.len k.key.cap) W (run_cell 22 _ ⟨w.heap.size, 0, none⟩ _ _ rfl (by kernel_rfl) Tryz.underlying22 rfl W ((R0.out.below hW R0.out.lt).cell 0)) ⟨_, rfl, Below.refl _ _, rfl⟩
    | 2, hdi, hdep =>
      obtain rfl := Option.some.inj hdi
      rw [updV_self (show x 1 = _ from hdep 1 (by simp [depTK]))]
      refine OI_call rfl rfl (by intro c h; cases h) 5 #[.slice k.key.a k.key.len k.key.cap] (fun _ _ => trivial) (by kernel_rfl) (by decide) ?_
      refine (callsIn_wide.2 (twin_own k.key W (K1.out.below hW) L1.out)).mono ?_
      rintro e w' ⟨g, rfl, ht, hown, hb'⟩
      exact ⟨_, rfl, _, rfl, hb', ⟨g, rfl, ht, own_low hown hW.size⟩⟩
    | 3, hdi, _ =>
      obtain rfl := Option.some.inj hdi
      exact OI_value rfl rfl (about_none (by intro c h; cases h)) (by intro c h; cases h) (.pointer (some ⟨w.heap.size, 1, none⟩)) W (by kernel_rfl) ⟨_, rfl, Below.refl _ _, rfl⟩
    | 4, hdi, hdep =>
      obtain rfl := Option.some.inj hdi
      rw [updV_self (show x 3 = _ from hdep 3 (by simp [depTK]))]
      exact OI_value rfl rfl (about_none (by intro c h; cases h)) (by intro c h; cases h) (.slice k.iv.a k.iv.len k.iv.cap) W (run_cell 22 _ ⟨w.heap.size, 1, none⟩ _ _ rfl (by kernel_rfl) Tryz.underlying22 rfl W ((R0.out.below hW R0.out.lt).cell 1)) ⟨_, rfl, Below.refl _ _, rfl⟩
    | 5, hdi, hdep =>
      obtain rfl := Option.some.inj hdi
      obtain ⟨p, ep, tp, _⟩ := hdep 2 (by simp [depTK])
      have hp := tp.lt
      have e0 := updV_self (show x 4 = _ from hdep 4 (by simp [depTK]))
      have ep2 : updV x 4 (.slice k.iv.a k.iv.len k.iv.cap) 2 = tw13 p k.key.len := by rw [← e0]; exact ep
      rw [e0]
      refine OI_call rfl rfl (by intro c h; cases h) 5 #[.slice k.iv.a k.iv.len k.iv.cap] (fun _ _ => trivial) (by kernel_rfl) (by decide) ?_
      refine (callsIn_wide.2 (twin_own k.iv W (K2.out.below hW) L2.out)).mono ?_
      rintro e w' ⟨g, rfl, ht, hown, hb'⟩
      exact ⟨_, rfl, _, rfl, hb', ⟨p, g, ep2, rfl, Nat.lt_of_lt_of_le hp (hown.lt g rfl).1, ht, own_low hown hW.size⟩⟩
    | 6, hdi, _ =>
      obtain rfl := Option.some.inj hdi
      exact OI_value rfl rfl (about_none (by intro c h; cases h)) (by intro c h; cases h) (.pointer (some ⟨w.heap.size, 2, none⟩)) W (by kernel_rfl) ⟨_, rfl, Below.refl _ _, rfl⟩
    | 7, hdi, hdep =>
      obtain rfl := Option.some.inj hdi
      rw [updV_self (show x 6 = _ from hdep 6 (by simp [depTK]))]
      exact OI_value rfl rfl (about_none (by intro c h; cases h)) (by intro c h; cases h) (.slice k.mask.a k.mask.len k.mask.cap) W (run_cell 22 _ ⟨w.heap.size, 2, none⟩ _ _ rfl (by kernel_rfl) Tryz.underlying22 rfl W ((R0.out.below hW R0.out.lt).cell 2)) ⟨_, rfl, Below.refl _ _, rfl⟩
    | 8, hdi, hdep =>
      obtain rfl := Option.some.inj hdi
      obtain ⟨_, p, _, ep, _, tp, _⟩ := hdep 5 (by simp [depTK])
      have hp := tp.lt
      have e0 := updV_self (show x 7 = _ from hdep 7 (by simp [depTK]))
      have ep2 : updV x 7 (.slice k.mask.a k.mask.len k.mask.cap) 5 = tw13 p k.iv.len := by rw [← e0]; exact ep
      rw [e0]
      refine OI_call rfl rfl (by intro c h; cases h) 5 #[.slice k.mask.a k.mask.len k.mask.cap] (fun _ _ => trivial) (by kernel_rfl) (by decide) ?_
      refine (callsIn_wide.2 (twin_own k.mask W (K3.out.below hW) L3.out)).mono ?_
      rintro e w' ⟨g, rfl, ht, hown, hb'⟩
      exact ⟨_, rfl, _, rfl, hb', ⟨p, g, ep2, rfl, Nat.lt_of_lt_of_le hp (hown.lt g rfl).1, ht, own_low hown hW.size⟩⟩
    | 9, hdi, hdep =>
      obtain rfl := Option.some.inj hdi
      obtain ⟨g1, e1, _⟩ := hdep 2 (by simp [depTK])
      obtain ⟨_, g2, _, e2, _⟩ := hdep 5 (by simp [depTK])
      obtain ⟨_, g3, _, e3, _⟩ := hdep 8 (by simp [depTK])
      rw [updV_self (show x 2 = _ from e1), updV_self (show updV x 2 _ 5 = _ from e2), updV_self (show updV (updV x 2 _) 5 _ 8 = _ from e3)]
      exact OI_value rfl rfl (about_none (by intro c h; cases h)) (by intro c h; cases h) (.agg (keysC (tw13 g1 k.key.len) (tw13 g2 k.iv.len) (tw13 g3 k.mask.len))) W (run_buildS _ _ rfl _ (by kernel_rfl) W) ⟨_, rfl, Below.refl _ _, rfl⟩
    | _ + 10, hdi, _ => simp at hdi
  case last =>
    intro x W hW hx
    obtain ⟨g1, e1, t1, o1⟩ := hx 2 (by decide)
    obtain ⟨q1, g2, p2, e2, lt1, t2, o2⟩ := hx 5 (by decide)
    obtain rfl : g1 = q1 := by rw [e1] at p2; injection p2 with h _ _; injection h with h; injection h with h
    obtain ⟨q2, g3, p3, e3, lt2, t3, o3⟩ := hx 8 (by decide)
    obtain rfl : g2 = q2 := by rw [e2] at p3; injection p3 with h _ _; injection h with h; injection h with h
    have eb : x 9 = .agg (keysC (x 2) (x 5) (x 8)) := hx 9 (by decide)
    rw [e1, e2, e3] at eb
    have hG1 := (R1.out.below hW R1.out.lt)
    have sz : w0.heap.size = w.heap.size + 2 := by rw [← HW.out]; simp
    have n1 : g1 ≠ w.heap.size + 1 := by have := (o1.lt g1 rfl).1; omega
    have n2 : g2 ≠ w.heap.size + 1 := by have := (o2.lt g2 rfl).1; omega
    have n3 : g3 ≠ w.heap.size + 1 := by have := (o3.lt g3 rfl).1; omega
    rw [updV_self eb]
    exact OI_skip rfl rfl (about_none (by intro c h; cases h)) (by intro c h; cases h) (W.setRow (w.heap.size + 1) (keysC (tw13 g1 k.key.len) (tw13 g2 k.iv.len) (tw13 g3 k.mask.len))) (run_store_row 27 _ _ rfl (w.heap.size + 1) (keysC (tw13 g1 k.key.len) (tw13 g2 k.iv.len) (tw13 g3 k.mask.len)) (by kernel_rfl) (by kernel_rfl) 27 (keysC (.slice none 0 0) (.slice none 0 0) (.slice none 0 0)) hG1 3 (by kernel_rfl) rfl rfl (by simp [Value.oneCell'])) ⟨put_none _ _, g1, g2, g3, hG1.put _, t1.setRow _ _ n1, own_low (own_setRow o1 _ _ (fun j hj => by obtain rfl := Option.some.inj hj; exact n1)) B0.out.size, t2.setRow _ _ n2, own_low (own_setRow o2 _ _ (fun j hj => by obtain rfl := Option.some.inj hj; exact n2)) B0.out.size, t3.setRow _ _ n3, own_low (own_setRow o3 _ _ (fun j hj => by obtain rfl := Option.some.inj hj; exact n3)) B0.out.size, lt1, lt2, bSetRow (B0.out.trans (hW.mono B0.out.size)) (by omega) _⟩
  case done =>
    rintro x W ⟨g1, g2, g3, hr, h⟩
    simp only [putsV, Act.put, List.setIfInBounds_toArray, List.set_cons_succ, List.set_cons_zero, Nat.reduceAdd]
    generalize x 0 = z0, x 1 = z1, x 2 = z2, x 3 = z3, x 4 = z4, x 5 = z5, x 6 = z6, x 7 = z7, x 8 = z8, x 9 = z9
    have HR := veil hr
    have HH := veil h
    clear hr h
    gi_wp2_with fail
    exact bodyPost_ret (results_cell_row rfl _ _ (w.heap.size + 1) 27 _ (0, 0) _ rfl HR.out Tryz.underlying27 rfl (by kernel_rfl)) rfl ⟨g1, g2, g3, rfl, HH.out⟩

end Go.Proofs.YtbheoldakmcppaaGreatDoor

/-! What the law's LeftHeader and LeftKeys answer of twins, and a Book that is told a header. Written by mklf13.py. -/
namespace Go.Proofs.YtbheoldakmcppaaGreatDoor
open Go Go.RowKit

set_option maxRecDepth 20000 in
set_option maxHeartbeats 2000000 in
theorem leftHeader_any (h : HD) (g1 g2 : Nat) (w : World) (hk : h.Ok w) (t1 : Twin w g1 h.tu.b) (t2 : Twin w g2 h.fr.b) (l1 : h.tu.len ≤ 140737488351232) (l2 : h.fr.len ≤ 140737488351232) :
    Calls Tryz.prog 10 #[.agg (headC h.long (tw13 g1 h.tu.len) (tw13 g2 h.fr.len) h.num h.phase), .agg h.cells] w fun e w' => e = .returned (.bool true) ∧ Below w.heap.size w w' := by
  obtain ⟨w0, hw0⟩ : ∃ W, (w.alloc (.cells (headC h.long (tw13 g1 h.tu.len) (tw13 g2 h.fr.len) h.num h.phase) 25)).alloc (.cells h.cells 25) = W := ⟨_, rfl⟩
  have b0 : Below w.heap.size w w0 := by rw [← hw0]; exact ((Below.refl _ w).alloc (Nat.le_refl _) _).alloc (by simp) _
  have r0 : Row w0 w.heap.size 25 (headC h.long (tw13 g1 h.tu.len) (tw13 g2 h.fr.len) h.num h.phase) := by rw [← hw0]; exact (Row.new _ _ _).alloc _
  have r1 : Row w0 (w.heap.size + 1) 25 h.cells := by rw [← hw0]; exact Row.new1 _ _ _ _
  have B0 := veil b0
  have R0 := veil r0
  have R1 := veil r1
  have C1 : Hid (∀ W, Below w0.heap.size w0 W → Calls Tryz.prog 11 #[tw13 g1 h.tu.len, .slice h.tu.a h.tu.len h.tu.cap] W fun e w' => e = .returned (.bool true) ∧ Below W.heap.size W w') := fun W hW => left_sl h.tu g1 W ((hk.tu.below b0).below hW) l1 ((t1.below b0).below hW)
  have C2 : Hid (∀ W, Below w0.heap.size w0 W → Calls Tryz.prog 11 #[tw13 g2 h.fr.len, .slice h.fr.a h.fr.len h.fr.cap] W fun e w' => e = .returned (.bool true) ∧ Below W.heap.size W w') := fun W hW => left_sl h.fr g2 W ((hk.fr.below b0).below hW) l2 ((t2.below b0).below hW)
  have HW := veil hw0
  clear b0 r0 r1 hk t1 l1 t2 l2
  have ca0 : w0.cell? ⟨w.heap.size, 0, none⟩ = some (.bool h.long) := R0.out.cell 0
  have cb0 : w0.cell? ⟨w.heap.size + 1, 0, none⟩ = some (.bool h.long) := R1.out.cell 0
  have ca1 : w0.cell? ⟨w.heap.size, 1, none⟩ = some (tw13 g1 h.tu.len) := R0.out.cell 1
  have cb1 : w0.cell? ⟨w.heap.size + 1, 1, none⟩ = some (.slice h.tu.a h.tu.len h.tu.cap) := R1.out.cell 1
  have ca2 : w0.cell? ⟨w.heap.size, 2, none⟩ = some (tw13 g2 h.fr.len) := R0.out.cell 2
  have cb2 : w0.cell? ⟨w.heap.size + 1, 2, none⟩ = some (.slice h.fr.a h.fr.len h.fr.cap) := R1.out.cell 2
  have ca3 : w0.cell? ⟨w.heap.size, 3, none⟩ = some (.int .u64 (h.num : Int)) := R0.out.cell 3
  have cb3 : w0.cell? ⟨w.heap.size + 1, 3, none⟩ = some (.int .u64 (h.num : Int)) := R1.out.cell 3
  have ca4 : w0.cell? ⟨w.heap.size, 4, none⟩ = some (.bool h.phase) := R0.out.cell 4
  have cb4 : w0.cell? ⟨w.heap.size + 1, 4, none⟩ = some (.bool h.phase) := R1.out.cell 4
  rw [← hw0] at ca0 cb0 ca1 cb1 ca2 cb2 ca3 cb3 ca4 cb4
  clear hw0
  go_enter Tryz.func10, Tryz.ntmps10
  go_wp2_with fail
  show Calls _ _ _ ((w.alloc (.cells (headC h.long (tw13 g1 h.tu.len) (tw13 g2 h.fr.len) h.num h.phase) 25)).alloc (.cells h.cells 25)) _
  rw [HW.out]
  rw [HW.out] at ca0 cb0 ca1 cb1 ca2 cb2 ca3 cb3 ca4 cb4
  clear ca0 cb0 ca1 cb1 ca2 cb2 ca3 cb3 ca4 cb4 HW
  refine (C1.out w0 (Below.refl _ _)).mono ?_
  rintro e1 w1 ⟨rfl, hb1⟩
  have D1 := veil hb1
  clear hb1
  have ca0 : w1.cell? ⟨w.heap.size, 0, none⟩ = some (.bool h.long) := (R0.out.below D1.out R0.out.lt).cell 0
  have cb0 : w1.cell? ⟨w.heap.size + 1, 0, none⟩ = some (.bool h.long) := (R1.out.below D1.out R1.out.lt).cell 0
  have ca1 : w1.cell? ⟨w.heap.size, 1, none⟩ = some (tw13 g1 h.tu.len) := (R0.out.below D1.out R0.out.lt).cell 1
  have cb1 : w1.cell? ⟨w.heap.size + 1, 1, none⟩ = some (.slice h.tu.a h.tu.len h.tu.cap) := (R1.out.below D1.out R1.out.lt).cell 1
  have ca2 : w1.cell? ⟨w.heap.size, 2, none⟩ = some (tw13 g2 h.fr.len) := (R0.out.below D1.out R0.out.lt).cell 2
  have cb2 : w1.cell? ⟨w.heap.size + 1, 2, none⟩ = some (.slice h.fr.a h.fr.len h.fr.cap) := (R1.out.below D1.out R1.out.lt).cell 2
  have ca3 : w1.cell? ⟨w.heap.size, 3, none⟩ = some (.int .u64 (h.num : Int)) := (R0.out.below D1.out R0.out.lt).cell 3
  have cb3 : w1.cell? ⟨w.heap.size + 1, 3, none⟩ = some (.int .u64 (h.num : Int)) := (R1.out.below D1.out R1.out.lt).cell 3
  have ca4 : w1.cell? ⟨w.heap.size, 4, none⟩ = some (.bool h.phase) := (R0.out.below D1.out R0.out.lt).cell 4
  have cb4 : w1.cell? ⟨w.heap.size + 1, 4, none⟩ = some (.bool h.phase) := (R1.out.below D1.out R1.out.lt).cell 4
  go_wp2_with fail
  refine (C2.out w1 D1.out).mono ?_
  rintro e2 w2 ⟨rfl, hb2⟩
  have D2 := veil (D1.out.trans (hb2.mono D1.out.size))
  clear hb2
  clear ca0 cb0 ca1 cb1 ca2 cb2 ca3 cb3 ca4 cb4
  have ca0 : w2.cell? ⟨w.heap.size, 0, none⟩ = some (.bool h.long) := (R0.out.below D2.out R0.out.lt).cell 0
  have cb0 : w2.cell? ⟨w.heap.size + 1, 0, none⟩ = some (.bool h.long) := (R1.out.below D2.out R1.out.lt).cell 0
  have ca1 : w2.cell? ⟨w.heap.size, 1, none⟩ = some (tw13 g1 h.tu.len) := (R0.out.below D2.out R0.out.lt).cell 1
  have cb1 : w2.cell? ⟨w.heap.size + 1, 1, none⟩ = some (.slice h.tu.a h.tu.len h.tu.cap) := (R1.out.below D2.out R1.out.lt).cell 1
  have ca2 : w2.cell? ⟨w.heap.size, 2, none⟩ = some (tw13 g2 h.fr.len) := (R0.out.below D2.out R0.out.lt).cell 2
  have cb2 : w2.cell? ⟨w.heap.size + 1, 2, none⟩ = some (.slice h.fr.a h.fr.len h.fr.cap) := (R1.out.below D2.out R1.out.lt).cell 2
  have ca3 : w2.cell? ⟨w.heap.size, 3, none⟩ = some (.int .u64 (h.num : Int)) := (R0.out.below D2.out R0.out.lt).cell 3
  have cb3 : w2.cell? ⟨w.heap.size + 1, 3, none⟩ = some (.int .u64 (h.num : Int)) := (R1.out.below D2.out R1.out.lt).cell 3
  have ca4 : w2.cell? ⟨w.heap.size, 4, none⟩ = some (.bool h.phase) := (R0.out.below D2.out R0.out.lt).cell 4
  have cb4 : w2.cell? ⟨w.heap.size + 1, 4, none⟩ = some (.bool h.phase) := (R1.out.below D2.out R1.out.lt).cell 4
  go_wp2_with fail
  go_ret
  exact ⟨rfl, B0.out.trans (D2.out.mono B0.out.size)⟩
set_option maxRecDepth 20000 in
set_option maxHeartbeats 2000000 in
theorem leftKeys_any (k : KS) (g1 g2 g3 : Nat) (w : World) (hk : k.Ok w) (t1 : Twin w g1 k.key.b) (t2 : Twin w g2 k.iv.b) (t3 : Twin w g3 k.mask.b) (l1 : k.key.len ≤ 140737488351232) (l2 : k.iv.len ≤ 140737488351232) (l3 : k.mask.len ≤ 140737488351232) :
    Calls Tryz.prog 12 #[.agg (keysC (tw13 g1 k.key.len) (tw13 g2 k.iv.len) (tw13 g3 k.mask.len)), .agg k.cells] w fun e w' => e = .returned (.bool true) ∧ Below w.heap.size w w' := by
  obtain ⟨w0, hw0⟩ : ∃ W, (w.alloc (.cells (keysC (tw13 g1 k.key.len) (tw13 g2 k.iv.len) (tw13 g3 k.mask.len)) 27)).alloc (.cells k.cells 27) = W := ⟨_, rfl⟩
  have b0 : Below w.heap.size w w0 := by rw [← hw0]; exact ((Below.refl _ w).alloc (Nat.le_refl _) _).alloc (by simp) _
  have r0 : Row w0 w.heap.size 27 (keysC (tw13 g1 k.key.len) (tw13 g2 k.iv.len) (tw13 g3 k.mask.len)) := by rw [← hw0]; exact (Row.new _ _ _).alloc _
  have r1 : Row w0 (w.heap.size + 1) 27 k.cells := by rw [← hw0]; exact Row.new1 _ _ _ _
  have B0 := veil b0
  have R0 := veil r0
  have R1 := veil r1
  have C1 : Hid (∀ W, Below w0.heap.size w0 W → Calls Tryz.prog 11 #[tw13 g1 k.key.len, .slice k.key.a k.key.len k.key.cap] W fun e w' => e = .returned (.bool true) ∧ Below W.heap.size W w') := fun W hW => left_sl k.key g1 W ((hk.key.below b0).below hW) l1 ((t1.below b0).below hW)
  have C2 : Hid (∀ W, Below w0.heap.size w0 W → Calls Tryz.prog 11 #[tw13 g2 k.iv.len, .slice k.iv.a k.iv.len k.iv.cap] W fun e w' => e = .returned (.bool true) ∧ Below W.heap.size W w') := fun W hW => left_sl k.iv g2 W ((hk.iv.below b0).below hW) l2 ((t2.below b0).below hW)
  have C3 : Hid (∀ W, Below w0.heap.size w0 W → Calls Tryz.prog 11 #[tw13 g3 k.mask.len, .slice k.mask.a k.mask.len k.mask.cap] W fun e w' => e = .returned (.bool true) ∧ Below W.heap.size W w') := fun W hW => left_sl k.mask g3 W ((hk.mask.below b0).below hW) l3 ((t3.below b0).below hW)
  have HW := veil hw0
  clear b0 r0 r1 hk t1 l1 t2 l2 t3 l3
  have ca0 : w0.cell? ⟨w.heap.size, 0, none⟩ = some (tw13 g1 k.key.len) := R0.out.cell 0
  have cb0 : w0.cell? ⟨w.heap.size + 1, 0, none⟩ = some (.slice k.key.a k.key.len k.key.cap) := R1.out.cell 0
  have ca1 : w0.cell? ⟨w.heap.size, 1, none⟩ = some (tw13 g2 k.iv.len) := R0.out.cell 1
  have cb1 : w0.cell? ⟨w.heap.size + 1, 1, none⟩ = some (.slice k.iv.a k.iv.len k.iv.cap) := R1.out.cell 1
  have ca2 : w0.cell? ⟨w.heap.size, 2, none⟩ = some (tw13 g3 k.mask.len) := R0.out.cell 2
  have cb2 : w0.cell? ⟨w.heap.size + 1, 2, none⟩ = some (.slice k.mask.a k.mask.len k.mask.cap) := R1.out.cell 2
  rw [← hw0] at ca0 cb0 ca1 cb1 ca2 cb2
  clear hw0
  go_enter Tryz.func12, Tryz.ntmps12
  go_wp2_with fail
  show Calls _ _ _ ((w.alloc (.cells (keysC (tw13 g1 k.key.len) (tw13 g2 k.iv.len) (tw13 g3 k.mask.len)) 27)).alloc (.cells k.cells 27)) _
  rw [HW.out]
  rw [HW.out] at ca0 cb0 ca1 cb1 ca2 cb2
  clear ca0 cb0 ca1 cb1 ca2 cb2 HW
  refine (C1.out w0 (Below.refl _ _)).mono ?_
  rintro e1 w1 ⟨rfl, hb1⟩
  have D1 := veil hb1
  clear hb1
  have ca0 : w1.cell? ⟨w.heap.size, 0, none⟩ = some (tw13 g1 k.key.len) := (R0.out.below D1.out R0.out.lt).cell 0
  have cb0 : w1.cell? ⟨w.heap.size + 1, 0, none⟩ = some (.slice k.key.a k.key.len k.key.cap) := (R1.out.below D1.out R1.out.lt).cell 0
  have ca1 : w1.cell? ⟨w.heap.size, 1, none⟩ = some (tw13 g2 k.iv.len) := (R0.out.below D1.out R0.out.lt).cell 1
  have cb1 : w1.cell? ⟨w.heap.size + 1, 1, none⟩ = some (.slice k.iv.a k.iv.len k.iv.cap) := (R1.out.below D1.out R1.out.lt).cell 1
  have ca2 : w1.cell? ⟨w.heap.size, 2, none⟩ = some (tw13 g3 k.mask.len) := (R0.out.below D1.out R0.out.lt).cell 2
  have cb2 : w1.cell? ⟨w.heap.size + 1, 2, none⟩ = some (.slice k.mask.a k.mask.len k.mask.cap) := (R1.out.below D1.out R1.out.lt).cell 2
  go_wp2_with fail
  refine (C2.out w1 D1.out).mono ?_
  rintro e2 w2 ⟨rfl, hb2⟩
  have D2 := veil (D1.out.trans (hb2.mono D1.out.size))
  clear hb2
  clear ca0 cb0 ca1 cb1 ca2 cb2
  have ca0 : w2.cell? ⟨w.heap.size, 0, none⟩ = some (tw13 g1 k.key.len) := (R0.out.below D2.out R0.out.lt).cell 0
  have cb0 : w2.cell? ⟨w.heap.size + 1, 0, none⟩ = some (.slice k.key.a k.key.len k.key.cap) := (R1.out.below D2.out R1.out.lt).cell 0
  have ca1 : w2.cell? ⟨w.heap.size, 1, none⟩ = some (tw13 g2 k.iv.len) := (R0.out.below D2.out R0.out.lt).cell 1
  have cb1 : w2.cell? ⟨w.heap.size + 1, 1, none⟩ = some (.slice k.iv.a k.iv.len k.iv.cap) := (R1.out.below D2.out R1.out.lt).cell 1
  have ca2 : w2.cell? ⟨w.heap.size, 2, none⟩ = some (tw13 g3 k.mask.len) := (R0.out.below D2.out R0.out.lt).cell 2
  have cb2 : w2.cell? ⟨w.heap.size + 1, 2, none⟩ = some (.slice k.mask.a k.mask.len k.mask.cap) := (R1.out.below D2.out R1.out.lt).cell 2
  go_wp2_with fail
  refine (C3.out w2 D2.out).mono ?_
  rintro e3 w3 ⟨rfl, hb3⟩
  have D3 := veil (D2.out.trans (hb3.mono D2.out.size))
  clear hb3
  clear ca0 cb0 ca1 cb1 ca2 cb2
  have ca0 : w3.cell? ⟨w.heap.size, 0, none⟩ = some (tw13 g1 k.key.len) := (R0.out.below D3.out R0.out.lt).cell 0
  have cb0 : w3.cell? ⟨w.heap.size + 1, 0, none⟩ = some (.slice k.key.a k.key.len k.key.cap) := (R1.out.below D3.out R1.out.lt).cell 0
  have ca1 : w3.cell? ⟨w.heap.size, 1, none⟩ = some (tw13 g2 k.iv.len) := (R0.out.below D3.out R0.out.lt).cell 1
  have cb1 : w3.cell? ⟨w.heap.size + 1, 1, none⟩ = some (.slice k.iv.a k.iv.len k.iv.cap) := (R1.out.below D3.out R1.out.lt).cell 1
  have ca2 : w3.cell? ⟨w.heap.size, 2, none⟩ = some (tw13 g3 k.mask.len) := (R0.out.below D3.out R0.out.lt).cell 2
  have cb2 : w3.cell? ⟨w.heap.size + 1, 2, none⟩ = some (.slice k.mask.a k.mask.len k.mask.cap) := (R1.out.below D3.out R1.out.lt).cell 2
  go_wp2_with fail
  go_ret
  exact ⟨rfl, B0.out.trans (D3.out.mono B0.out.size)⟩
set_option maxRecDepth 20000 in
set_option maxHeartbeats 2000000 in
theorem KB.header {S B : Nat} {w0 W : World} {L : LV} (kb : KB S B w0 L W) (lg ph : Bool) (num : Nat) (x y : Value) (nx ny : Nat) (lx ly : List Value) (hm : L.length ≤ 900) (hx : RowW W S 5 1 x nx lx) (hy : RowW W S 5 1 y ny ly)
    (hxB : ∀ k, x.ownBlock = some k → k < B) (hyB : ∀ k, y.ownBlock = some k → k < B)
    (apx : ∀ p ∈ L, p.1.ownBlock = none ∨ p.1.ownBlock ≠ x.ownBlock) (apy : ∀ p ∈ L, p.1.ownBlock = none ∨ p.1.ownBlock ≠ y.ownBlock)
    (xy : x.ownBlock = none ∨ x.ownBlock ≠ y.ownBlock) :
    Calls Tryz.prog 13 #[.pointer (some ⟨B, 0, none⟩), .agg (headC lg x y num ph)] W fun e w' => e = .returned (.tuple #[]) ∧ KB S B w0 ((L ++ [(x, nx)]) ++ [(y, ny)]) w' ∧ Holds S B W w' := by
  obtain ⟨hbel, hBW, hSB⟩ := kb.bel
  have kx := kb.box (.cells (headC lg x y num ph) 25)
  have r0 : Row (W.alloc (.cells (headC lg x y num ph) 25)) W.heap.size 25 (headC lg x y num ph) := Row.new _ _ _
  have h0 : Holds S B W (W.alloc (.cells (headC lg x y num ph) 25)) := Holds.alloc S B W _
  have hkn : W.heap.size ≠ B := by omega
  have hsz : W.heap.size < (W.alloc (.cells (headC lg x y num ph) 25)).heap.size := by simp
  have X0 := veil hx
  have Y0 := veil hy
  have KX := veil kx
  have R0 := veil r0
  have H0 := veil h0
  have hApy : Hid (∀ p ∈ L ++ [(x, nx)], p.1.ownBlock = none ∨ p.1.ownBlock ≠ y.ownBlock) := fun p hp => by
    rcases List.mem_append.1 hp with h | h
    · exact apy p h
    · obtain rfl : p = (x, nx) := by simpa using h
      exact xy
  have APX := veil apx
  have BX := veil hxB
  have BY := veil hyB
  have HSZ := veil hsz
  have HKN := veil hkn
  have HM := veil hm
  obtain ⟨W1, hW1⟩ : ∃ W1, W1 = W.alloc (.cells (headC lg x y num ph) 25) := ⟨_, rfl⟩
  rw [← hW1] at KX R0 H0 HSZ
  clear hx hy kx r0 h0 apx apy xy hxB hyB hsz hkn kb hm hBW hSB hbel
  have c0 : W1.cell? ⟨W.heap.size, 1, none⟩ = some x := R0.out.cell 1
  rw [hW1] at c0
  go_enter Tryz.func13, Tryz.ntmps13
  go_wp2_with fail
  show Calls _ _ _ (W.alloc (.cells (headC lg x y num ph) 25)) _
  rw [← hW1]
  rw [← hW1] at c0
  clear hW1 c0
  refine (KX.out.tell HSZ.out HKN.out x nx lx (by have := HM.out; omega) (H0.out _ _ _ X0.out BX.out) BX.out APX.out).mono ?_
  rintro e2 w2 ⟨rfl, kx2, hh2, hk2⟩
  have R2 : Row w2 W.heap.size 25 (headC lg x y num ph) := hk2.trans R0.out
  have c1 : w2.cell? ⟨W.heap.size, 2, none⟩ = some y := R2.cell 2
  have H2 := veil (H0.out.trans hh2)
  have KX2 := veil kx2
  have RR2 := veil R2
  clear kx2 hh2 hk2 R2
  go_wp2_with fail
  refine (KX2.out.tell RR2.out.lt HKN.out y ny ly (by have := HM.out; simp; omega) (H2.out _ _ _ Y0.out BY.out) BY.out hApy.out).mono ?_
  rintro e4 w4 ⟨rfl, kx4, hh4, hk4⟩
  have H4 := veil (H2.out.trans hh4)
  have KX4 := veil kx4.kb
  clear kx4 hh4 hk4 c1
  go_wp2_with fail
  go_end0
  exact ⟨rfl, KX4.out, H4.out⟩
end Go.Proofs.YtbheoldakmcppaaGreatDoor
