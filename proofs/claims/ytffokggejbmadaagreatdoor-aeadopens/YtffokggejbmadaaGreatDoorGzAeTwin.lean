/-
  What the law's twin and left answer.
-/
import Derived.Test.YtffokggejbmadaaGreatDoorGz8
import Derived.Test.YtffokggejbmadaaGreatDoorGzAeGreat
import Derived.Test.YtffokggejbmadaaGreatDoorGz7
import Derived.Test.YtffokggejbmadaaGreatDoorGz9
import Derived.Test.YtffokggejbmadaaGreatDoorGz6
namespace Go.Proofs.YtffokggejbmadaaGreatDoor
open Go Go.RowKit

/-- A whole structure is handed back. -/
theorem result_part1 {P : Program} {fn : Func} {p : Tmp} {ty : TypeId} (h : fn.results = #[.cell p ty]) (tmps : Array Value) (w : World) (g : Nat) (t : TypeId) (cs : Array Value) (hg : Row w g t cs) (n : Nat) (fs : Array Field)
    (hp : tmps.getD p undef = .pointer (some ⟨g, 0, none⟩)) (hu : P.underlying ty = some (.struct fs)) (hi : (P.info? ty).map (·.size) = some n) (hc : cs.size = n) :
    (results fn tmps).run P w = .ok (.agg cs) w :=
  results_cell_row h tmps w g t cs (0, 0) _ hp hg hu rfl (by rw [hc]; exact hi)
/-- The copies of a key, a nonce and what stands beside. -/
def twinC (g1 g2 g3 : Nat) (k n b : SL) : Array Value := withC (twinS g1 k.len k.b) (twinS g2 n.len n.b) (twinS g3 b.len b.b)
def depW : Nat → List Nat
  | 1 => [0]
  | 2 => [1]
  | 4 => [3]
  | 5 => [4]
  | 7 => [6]
  | 8 => [7]
  | 9 => [2, 5, 8]
  | 10 => [0, 1, 2, 3, 4, 5, 6, 7, 8, 9]
  | _ => []
def valW (k n b : SL) (S : Nat) : Nat → World → Value → Prop
  | 0, _, v => v = .pointer (some ⟨S, 0, none⟩)
  | 1, _, v => v = .slice k.a k.len k.cap
  | 2, W, v => ∃ g, v = .slice (some ⟨g, 0, none⟩) k.len (k.len + 1) ∧ Twin W g k.b ∧ S + 2 ≤ g
  | 3, _, v => v = .pointer (some ⟨S, 1, none⟩)
  | 4, _, v => v = .slice n.a n.len n.cap
  | 5, W, v => ∃ g, v = .slice (some ⟨g, 0, none⟩) n.len (n.len + 1) ∧ Twin W g n.b ∧ S + 2 ≤ g
  | 6, _, v => v = .pointer (some ⟨S, 2, none⟩)
  | 7, _, v => v = .slice b.a b.len b.cap
  | 8, W, v => ∃ g, v = .slice (some ⟨g, 0, none⟩) b.len (b.len + 1) ∧ Twin W g b.b ∧ S + 2 ≤ g
  | 9, W, v => ∃ g1 g2 g3, v = .agg (twinC g1 g2 g3 k n b) ∧ Twin W g1 k.b ∧ Twin W g2 n.b ∧ Twin W g3 b.b ∧ S + 2 ≤ g1 ∧ S + 2 ≤ g2 ∧ S + 2 ≤ g3
  | _, _, _ => True
theorem valW_mono {k n b : SL} {S : Nat} : ∀ (j : Nat) (W W' : World) (v : Value), Below W.heap.size W W' → valW k n b S j W v → valW k n b S j W' v
  | 0, _, _, _, _, h => h
  | 1, _, _, _, _, h => h
  | 2, _, _, _, hb, ⟨g, h1, h2, h3⟩ => ⟨g, h1, h2.below hb, h3⟩
  | 3, _, _, _, _, h => h
  | 4, _, _, _, _, h => h
  | 5, _, _, _, hb, ⟨g, h1, h2, h3⟩ => ⟨g, h1, h2.below hb, h3⟩
  | 6, _, _, _, _, h => h
  | 7, _, _, _, _, h => h
  | 8, _, _, _, hb, ⟨g, h1, h2, h3⟩ => ⟨g, h1, h2.below hb, h3⟩
  | 9, _, _, _, hb, ⟨g1, g2, g3, h1, h2, h3, h4, h5⟩ => ⟨g1, g2, g3, h1, h2.below hb, h3.below hb, h4.below hb, h5⟩
  | _ + 10, _, _, _, _, _ => trivial
theorem Twin.setRow {w : World} {g g' : Nat} {b : List By} (h : Twin w g b) (hne : g ≠ g') (cs : Array Value) : Twin (w.setRow g' cs) g b :=
  ⟨by rw [setRow_size]; exact h.lt, fun j hj => (World.cell?_of_block (a := ⟨g, j, none⟩) (setRow_other _ _ _ _ hne)).trans (h.cell j hj), (World.cell?_of_block (a := ⟨g, b.length, none⟩) (setRow_other _ _ _ _ hne)).trans h.mark⟩
theorem withW_cells {W : World} {g : Nat} {t : TypeId} {k n b : SL} (r : Row W g t (withC k n b)) : W.cell? ⟨g, 0, none⟩ = some (.slice k.a k.len k.cap) ∧ W.cell? ⟨g, 1, none⟩ = some (.slice n.a n.len n.cap) ∧ W.cell? ⟨g, 2, none⟩ = some (.slice b.a b.len b.cap) :=
  ⟨r.cell 0, r.cell 1, r.cell 2⟩

set_option maxRecDepth 20000 in
set_option maxHeartbeats 2000000 in
theorem lawTwin_any (k n b : SL) (w : World) (hk : k.Ok w) (hn : n.Ok w) (hb : b.Ok w) (lk : k.len ≤ 4194304) (ln : n.len ≤ 4194304) (lb : b.len ≤ 4194304) :
    Calls Tryz.prog 6 #[.agg (withC k n b)] w fun e w' => ∃ g1 g2 g3, e = .returned (.agg (twinC g1 g2 g3 k n b)) ∧ Twin w' g1 k.b ∧ Twin w' g2 n.b ∧ Twin w' g3 b.b ∧ Below w.heap.size w w' := by
  have HK := veil hk
  have HN := veil hn
  have HB := veil hb
  have HLK := veil lk
  have HLN := veil ln
  have HLB := veil lb
  clear hk hn hb lk ln lb
  obtain ⟨w0, hw0⟩ : ∃ w0, w0 = (w.alloc (.cells (withC k n b) 24)).alloc (.cells #[.slice none 0 0, .slice none 0 0, .slice none 0 0] 24) := ⟨_, rfl⟩
  have r0 : Row w0 w.heap.size 24 (withC k n b) := by rw [hw0]; exact (Row.new _ _ _).alloc _
  have q0 : Row w0 (w.heap.size + 1) 24 #[.slice none 0 0, .slice none 0 0, .slice none 0 0] := by rw [hw0]; exact Row.new1 _ _ _ _
  have b0 : Below w.heap.size w w0 := by rw [hw0]; exact ((Below.refl _ w).alloc (Nat.le_refl _) _).alloc (by simp) _
  have hs0 : w0.heap.size = w.heap.size + 2 := by rw [hw0]; simp
  refine (callsIn_wide (n := 4)).1 ?_
  refine callsIn_of_wp Tryz.func6 rfl trivial ?_ rfl
  simp only [Tryz.ntmps6, List.size_toArray, List.length_cons, List.length_nil, Nat.reduceAdd, Nat.reduceSub, Array.replicate_succ, Array.replicate_zero, List.push_toArray, List.append_toArray, List.nil_append, List.cons_append]
  have HW0 := veil hw0
  clear hw0
  gi_wp2_with (with_reducible (show wpListIn _ _ _ _ _ (⟨_, Op.alloc 24, _, _, _, _⟩ :: _) _ _)
               refine alloc_rowIn rfl 24 rfl #[.slice none 0 0, .slice none 0 0, .slice none 0 0] (by kernel_rfl) ?_)
  rw [← HW0.out, World.size_alloc]
  refine wpIn_region_any (by kernel_rfl) ?_
  refine anyIn_store (w0 := w0) (valW k n b w.heap.size) valW_mono [3, 4, 5, 6, 7, 8, 9, 10, 11, 12] depW (by kernel_rfl) rfl (by decide) (by intro j hj; have : j < 10 := hj; simp [depW]; omega) (by kernel_rfl) ((Below.refl _ _).drew)
    (fun _ U => Below w.heap.size w U ∧ ∃ g1 g2 g3, Row U (w.heap.size + 1) 24 (twinC g1 g2 g3 k n b) ∧ Twin U g1 k.b ∧ Twin U g2 n.b ∧ Twin U g3 b.b) ?step ?last ?done
  case step =>
    intro x W i d hW hdi hdep
    have bW := b0.trans (hW.mono b0.size)
    have hsW := hW.size
    obtain ⟨c0, c1, c2⟩ := withW_cells (r0.below hW r0.lt)
    match i, hdi, hdep with
    | 0, hdi, _ =>
      obtain rfl := Option.some.inj hdi
      exact OI_value rfl rfl (about_none (by intro c h; cases h)) (by intro c h; cases h) (.pointer (some ⟨w.heap.size, 0, none⟩)) W (by kernel_rfl) ⟨_, rfl, Below.refl _ _, rfl⟩
    | 1, hdi, hdep =>
      obtain rfl := Option.some.inj hdi
      rw [updV_self (show x 0 = _ from hdep 0 (by simp [depW]))]
      exact OI_value rfl rfl (about_none (by intro c h; cases h)) (by intro c h; cases h) (.slice k.a k.len k.cap) W (run_cell 22 _ ⟨w.heap.size, 0, none⟩ _ _ rfl (by kernel_rfl) Tryz.underlying22 rfl W c0) ⟨_, rfl, Below.refl _ _, rfl⟩
    | 2, hdi, hdep =>
      obtain rfl := Option.some.inj hdi
      rw [updV_self (show x 1 = _ from hdep 1 (by simp [depW]))]
      refine OI_call rfl rfl (by intro c h; cases h) 7 #[.slice k.a k.len k.cap] (fun _ _ => trivial) (by kernel_rfl) (by decide) ?_
      refine (callsIn_wide.2 (twin_sl k W (HK.out.below bW) HLK.out)).mono ?_
      rintro e w' ⟨g, rfl, ht, hg, hb'⟩
      exact ⟨_, rfl, _, rfl, hb', ⟨g, rfl, ht, by omega⟩⟩
    | 3, hdi, _ =>
      obtain rfl := Option.some.inj hdi
      exact OI_value rfl rfl (about_none (by intro c h; cases h)) (by intro c h; cases h) (.pointer (some ⟨w.heap.size, 1, none⟩)) W (by kernel_rfl) ⟨_, rfl, Below.refl _ _, rfl⟩
    | 4, hdi, hdep =>
      obtain rfl := Option.some.inj hdi
      rw [updV_self (show x 3 = _ from hdep 3 (by simp [depW]))]
      exact OI_value rfl rfl (about_none (by intro c h; cases h)) (by intro c h; cases h) (.slice n.a n.len n.cap) W (run_cell 22 _ ⟨w.heap.size, 1, none⟩ _ _ rfl (by kernel_rfl) Tryz.underlying22 rfl W c1) ⟨_, rfl, Below.refl _ _, rfl⟩
    | 5, hdi, hdep =>
      obtain rfl := Option.some.inj hdi
      rw [updV_self (show x 4 = _ from hdep 4 (by simp [depW]))]
      refine OI_call rfl rfl (by intro c h; cases h) 7 #[.slice n.a n.len n.cap] (fun _ _ => trivial) (by kernel_rfl) (by decide) ?_
      refine (callsIn_wide.2 (twin_sl n W (HN.out.below bW) HLN.out)).mono ?_
      rintro e w' ⟨g, rfl, ht, hg, hb'⟩
      exact ⟨_, rfl, _, rfl, hb', ⟨g, rfl, ht, by omega⟩⟩
    | 6, hdi, _ =>
      obtain rfl := Option.some.inj hdi
      exact OI_value rfl rfl (about_none (by intro c h; cases h)) (by intro c h; cases h) (.pointer (some ⟨w.heap.size, 2, none⟩)) W (by kernel_rfl) ⟨_, rfl, Below.refl _ _, rfl⟩
    | 7, hdi, hdep =>
      obtain rfl := Option.some.inj hdi
      rw [updV_self (show x 6 = _ from hdep 6 (by simp [depW]))]
      exact OI_value rfl rfl (about_none (by intro c h; cases h)) (by intro c h; cases h) (.slice b.a b.len b.cap) W (run_cell 22 _ ⟨w.heap.size, 2, none⟩ _ _ rfl (by kernel_rfl) Tryz.underlying22 rfl W c2) ⟨_, rfl, Below.refl _ _, rfl⟩
    | 8, hdi, hdep =>
      obtain rfl := Option.some.inj hdi
      rw [updV_self (show x 7 = _ from hdep 7 (by simp [depW]))]
      refine OI_call rfl rfl (by intro c h; cases h) 7 #[.slice b.a b.len b.cap] (fun _ _ => trivial) (by kernel_rfl) (by decide) ?_
      refine (callsIn_wide.2 (twin_sl b W (HB.out.below bW) HLB.out)).mono ?_
      rintro e w' ⟨g, rfl, ht, hg, hb'⟩
      exact ⟨_, rfl, _, rfl, hb', ⟨g, rfl, ht, by omega⟩⟩
    | 9, hdi, hdep =>
      obtain rfl := Option.some.inj hdi
      obtain ⟨g1, e2, t1, l1⟩ := hdep 2 (by simp [depW])
      obtain ⟨g2, e5, t2, l2⟩ := hdep 5 (by simp [depW])
      obtain ⟨g3, e8, t3, l3⟩ := hdep 8 (by simp [depW])
      rw [updV_self (show x 2 = _ from e2), updV_self (show updV x 2 _ 5 = _ from e5), updV_self (show updV (updV x 2 _) 5 _ 8 = _ from e8)]
      exact OI_value rfl rfl (about_none (by intro c h; cases h)) (by intro c h; cases h) (.agg (twinC g1 g2 g3 k n b)) W (by kernel_rfl) ⟨_, rfl, Below.refl _ _, ⟨g1, g2, g3, rfl, t1, t2, t3, l1, l2, l3⟩⟩
    | _ + 10, hdi, _ => simp at hdi
  case last =>
    intro x U hU hx
    obtain ⟨g1, g2, g3, e9, t1, t2, t3, l1, l2, l3⟩ := hx 9 (by decide)
    have rU := q0.below hU q0.lt
    rw [updV_self e9]
    refine OI_skip rfl rfl (about_none (by intro c h; cases h)) (by intro c h; cases h) (U.setRow (w.heap.size + 1) (twinC g1 g2 g3 k n b)) (run_store_row 24 _ _ rfl (w.heap.size + 1) (twinC g1 g2 g3 k n b) (by kernel_rfl) (by kernel_rfl) _ _ rU 3 (by kernel_rfl) rfl rfl (by simp [twinC, withC, twinS, Value.oneCell'])) ?_
    exact ⟨by kernel_rfl, bSetRow (b0.trans (hU.mono b0.size)) (by omega) _, g1, g2, g3, rU.put _, t1.setRow (by omega) _, t2.setRow (by omega) _, t3.setRow (by omega) _⟩
  case done =>
    rintro x U ⟨bU, g1, g2, g3, rU, t1, t2, t3⟩
    simp only [putsV, Act.put, List.setIfInBounds_toArray, List.set_cons_succ, List.set_cons_zero, Nat.reduceAdd]
    gi_wp2_with fail
    exact bodyPost_ret (result_part1 rfl _ _ (w.heap.size + 1) _ _ rU 3 _ rfl Tryz.underlying24 (by kernel_rfl) rfl) rfl ⟨g1, g2, g3, rfl, t1, t2, t3, bU⟩

set_option maxRecDepth 20000 in
set_option maxHeartbeats 1000000 in
theorem lawLeft_any (g1 g2 g3 : Nat) (k n b : SL) (w : World) (hk : k.Ok w) (hn : n.Ok w) (hb : b.Ok w) (lk : k.len ≤ 4194304) (ln : n.len ≤ 4194304) (lb : b.len ≤ 4194304) (t1 : Twin w g1 k.b) (t2 : Twin w g2 n.b) (t3 : Twin w g3 b.b) :
    Calls Tryz.prog 11 #[.agg (twinC g1 g2 g3 k n b), .agg (withC k n b)] w fun e w' => e = .returned (.bool true) ∧ Below w.heap.size w w' := by
  have r0 : Row ((w.alloc (.cells (twinC g1 g2 g3 k n b) 24)).alloc (.cells (withC k n b) 24)) w.heap.size 24 (twinC g1 g2 g3 k n b) := (Row.new _ _ _).alloc _
  have q0 : Row ((w.alloc (.cells (twinC g1 g2 g3 k n b) 24)).alloc (.cells (withC k n b) 24)) (w.heap.size + 1) 24 (withC k n b) := Row.new1 _ _ _ _
  have b0 : Below w.heap.size w ((w.alloc (.cells (twinC g1 g2 g3 k n b) 24)).alloc (.cells (withC k n b) 24)) := ((Below.refl _ w).alloc (Nat.le_refl _) _).alloc (by simp) _
  have HK := veil hk
  have HN := veil hn
  have HB := veil hb
  have HLK := veil lk
  have HLN := veil ln
  have HLB := veil lb
  have T1 := veil t1
  have T2 := veil t2
  have T3 := veil t3
  clear hk hn hb lk ln lb t1 t2 t3
  obtain ⟨x0, x1, x2⟩ := withW_cells r0
  obtain ⟨c0, c1, c2⟩ := withW_cells q0
  simp only [twinS] at x0 x1 x2
  have HR := veil r0
  have HQ := veil q0
  have HB0 := veil b0
  have hlr := r0.lt
  have hlq := q0.lt
  clear r0 q0 b0
  go_enter Tryz.func11, Tryz.ntmps11
  go_wp2_with fail
  refine (left_sl k g1 _ (HK.out.below HB0.out) HLK.out (T1.out.below HB0.out)).mono ?_
  rintro e1 w1 ⟨rfl, hb1⟩
  have b1 := HB0.out.trans (hb1.mono HB0.out.size)
  have r1 := HR.out.below hb1 hlr
  have q1 := HQ.out.below hb1 hlq
  clear hb1 x0 x1 x2 c0 c1 c2
  obtain ⟨x0, x1, x2⟩ := withW_cells r1
  obtain ⟨c0, c1, c2⟩ := withW_cells q1
  simp only [twinS] at x0 x1 x2
  have HR1 := veil r1
  have HQ1 := veil q1
  have HB1 := veil b1
  have hlr1 := r1.lt
  have hlq1 := q1.lt
  clear r1 q1 b1
  go_wp2_with fail
  refine (left_sl n g2 w1 (HN.out.below HB1.out) HLN.out (T2.out.below HB1.out)).mono ?_
  rintro e2 w2 ⟨rfl, hb2⟩
  have b2 := HB1.out.trans (hb2.mono HB1.out.size)
  have r2 := HR1.out.below hb2 hlr1
  have q2 := HQ1.out.below hb2 hlq1
  clear hb2 x0 x1 x2 c0 c1 c2
  obtain ⟨x0, x1, x2⟩ := withW_cells r2
  obtain ⟨c0, c1, c2⟩ := withW_cells q2
  simp only [twinS] at x0 x1 x2
  clear r2 q2
  have HB2 := veil b2
  clear b2
  go_wp2_with fail
  refine (left_sl b g3 w2 (HB.out.below HB2.out) HLB.out (T3.out.below HB2.out)).mono ?_
  rintro e3 w3 ⟨rfl, hb3⟩
  have b3 := HB2.out.trans (hb3.mono HB2.out.size)
  clear hb3
  go_wp2_with fail
  go_ret
  exact ⟨rfl, b3⟩
end Go.Proofs.YtffokggejbmadaaGreatDoor
