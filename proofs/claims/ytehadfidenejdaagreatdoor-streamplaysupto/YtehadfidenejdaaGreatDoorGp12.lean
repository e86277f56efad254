/-
  Out of SrAdd, FrSpine2.
-/
import Derived.Test.YtehadfidenejdaaGreatDoorGp11
import Derived.Lib.MinMax
import Derived.Test.YtehadfidenejdaaGreatDoorGp2

/-! Places are added to runs. -/
namespace Go.Proofs.YtehadfidenejdaaGreatDoor
open Go Go.RowKit

namespace Sr
/-- What a row of one run is. -/
theorem lit_row {W : World} {g : Nat} {r : Nat × Nat} (h : W.heap[g]? = some (.cells (rC2 r) 77 (0, 0))) : RowO W 77 2 (.slice (some ⟨g, 0, none⟩) 1 1) 1 (vr [r]) :=
  of_blk (pre := []) (post := []) rfl rfl (Nat.le_refl _) (by decide) (by simp) h
set_option maxRecDepth 20000 in
/-- slices.Replace of none by one: that is Insert. -/
theorem rep_eq (w : World) {v : Value} {n i : Nat} {l : List (Nat × Nat)} (h : RowO w 77 2 v n (vr l)) (hl : l.length = n) (hn : n ≤ 1073741824) (hi : i ≤ n) (r : Nat × Nat) (vb : Nat)
    (hvb : w.heap[vb]? = some (.cells (rC2 r) 77 (0, 0))) (hne : v.ownBlock ≠ some vb) :
    Calls Tryz.prog 91 #[v, .int .i64 (i : Int), .int .i64 (i : Int), .slice (some ⟨vb, 0, none⟩) 1 1] w fun e w' =>
      ∃ v', e = .returned v' ∧ RowO w' 77 2 v' (n + 1) (vr (l.take i ++ [r] ++ l.drop i)) ∧ KeepP (fun b => v.ownBlock = some b) w w' ∧ Stay v v' w := by
  obtain ⟨va, vc, rfl, _, _⟩ := h.shape
  obtain ⟨xa, xc, hx, _, _⟩ := sl_any (P := Tryz.prog) w 70 Tryz.underlying70 (by kernel_rfl) h (Nat.le_refl i) hi
  have HI := veil (ins_any w h hl hn hi r vb hvb hne)
  clear h hl hn hi hvb hne
  go_enter Tryz.func91, Tryz.ntmps91
  go_wp2_with fail
  refine HI.out.mono ?_
  rintro e1 w1 ⟨v', rfl, h1, h2, h3⟩
  have H := veil (show _ ∧ _ ∧ _ from ⟨h1, h2, h3⟩)
  clear h1 h2 h3
  go_wp2
  go_ret
  exact ⟨v', rfl, H.out⟩
/-- What stands where places were added, or cut. -/
structure Done (w w' : World) (v v' : Value) (l : List (Nat × Nat)) : Prop where
  row : RowO w' 77 2 v' l.length (vr l)
  keep : KeepP (fun b => v.ownBlock = some b) w w'
  stay : Stay v v' w
theorem Done.same {w w' : World} {v : Value} {l : List (Nat × Nat)} (h : RowO w 77 2 v l.length (vr l)) (hb : Below w.heap.size w w') : Done w w' v v l := ⟨h.below hb, KeepP.of_below hb, Stay.refl v w⟩
theorem Done.behind {w w0 w' : World} {v v' : Value} {l : List (Nat × Nat)} (hb : Below w.heap.size w w0) (h : Done w0 w' v v' l) : Done w w' v v' l :=
  ⟨h.row, onto (KeepP.of_below hb) h.keep (fun _ _ e => e), fun k hk => (h.stay k hk).imp_right (fun e => Nat.le_trans hb.size e)⟩
theorem repl_len {l : List Rn} {i j : Nat} (hi : i ≤ j) (hj : j ≤ l.length) (v : List Rn) : (repl l i j v).length = i + v.length + (l.length - j) := by
  unfold repl
  rw [List.length_append, List.length_append, List.length_take, List.length_drop]
  omega
/-- What is put in the place of some runs. -/
theorem rep_one (w : World) {v : Value} {l : List Rn} (h : RowO w 77 2 v l.length (vr l)) (hn : l.length ≤ 1073741824) {i j : Nat} (hi : i ≤ j) (hj : j ≤ l.length) (r : Nat × Nat) (vb : Nat)
    (hvb : w.heap[vb]? = some (.cells (rC2 r) 77 (0, 0))) (hne : v.ownBlock ≠ some vb) :
    Calls Tryz.prog 91 #[v, .int .i64 (i : Int), .int .i64 (j : Int), .slice (some ⟨vb, 0, none⟩) 1 1] w fun e w' =>
      ∃ v', e = .returned v' ∧ Done w w' v v' (repl l i j [r]) := by
  have hlen := repl_len hi hj [r]
  by_cases c : i = j
  · subst c
    refine (rep_eq w h rfl hn hj r vb hvb hne).mono ?_
    rintro e w' ⟨v', rfl, h1, h2, h3⟩
    refine ⟨v', rfl, ?_, h2, h3⟩
    rw [hlen, show i + [r].length + (l.length - i) = l.length + 1 by simp; omega]
    exact h1
  · refine (rep_any w h rfl hn (by omega) hj rfl (lit_row hvb) (fun k hk => by injection hk with hk; rw [← hk]; exact hne) (by simp)).mono ?_
    rintro e w' ⟨v', rfl, h1, h2, h3⟩
    refine ⟨v', rfl, ?_, h2, h3⟩
    rw [hlen]
    exact h1
set_option maxHeartbeats 2000000 in
set_option maxRecDepth 20000 in
theorem add_any (w : World) {v : Value} {l : List Rn} {r : Rn} (h : RowO w 77 2 v l.length (vr l)) (hn : l.length ≤ 536870912) (hc : Canon l) :
    Calls Tryz.prog 46 #[v, rcA r] w fun e w' => ∃ v', e = .returned v' ∧ Done w w' v v' (add l r) := by
  obtain ⟨va, vc, hve, _, _⟩ := h.shape
  obtain ⟨n, hl⟩ : ∃ n, l.length = n := ⟨_, rfl⟩
  rw [hl] at hve
  have hb0 : Below w.heap.size w (w.alloc (.cells (rC2 r) 77)) := (Below.refl _ w).alloc (Nat.le_refl _) _
  by_cases c0 : r.1 = r.2
  · have HD := veil (show Done w (w.alloc (.cells (rC2 r) 77)) v v (add l r) from by unfold add; rw [if_pos c0]; exact Done.same h hb0)
    rw [hve] at HD ⊢
    obtain ⟨x, y⟩ := r
    obtain rfl : x = y := c0
    clear h hn hc hl hb0
    unfold rcA
    unfold rC2 at HD
    simp only at HD ⊢
    go_enter Tryz.func46, Tryz.ntmps46
    go_wp2_with fail
    go_ret
    exact ⟨_, rfl, HD.out⟩
  · obtain ⟨i, hie⟩ : ∃ i, lo apartB l r = i := ⟨_, rfl⟩
    obtain ⟨j, hje⟩ : ∃ j, hi apartB l r = j := ⟨_, rfl⟩
    have hij : i ≤ j := by rw [← hie, ← hje]; exact lo_le_hi _ _ _
    have hjn : j ≤ l.length := by rw [← hje]; exact hi_le _ _ _
    have hrow := h.below hb0
    have hr0 : Row (w.alloc (.cells (rC2 r) 77)) w.heap.size 77 (rC2 r) := Row.new _ _ _
    have HN := near_any asks_apart (w.alloc (.cells (rC2 r) 77)) (r := r) hrow rfl (by omega) hc (ups_apart r)
    rw [hie, hje] at HN
    have hadd : add l r = repl l i j [if i < j then (min r.1 (gl l i).1, max r.2 (gl l (j - 1)).2) else r] := by
      unfold add
      rw [if_neg c0, hie, hje]
    rw [hadd]
    clear hadd hc hie hje
    obtain ⟨x, y⟩ := r
    have c1 : ¬ ((x : Int) = (y : Int)) := by simp only at c0; omega
    have c2 : ¬ x = y := c0
    unfold rcA at HN ⊢
    unfold rC2 at HN hrow hr0 hb0
    simp only at HN hrow hr0 hb0 ⊢
    have HN := veil HN
    have HROW := veil hrow
    have HR0 := veil hr0
    have HB0 := veil hb0
    have HNC := veil (show l.length = n ∧ n ≤ 536870912 ∧ i ≤ j ∧ j ≤ n from ⟨hl, by omega, hij, by omega⟩)
    have HWB := veil (h.lt)
    generalize hW0 : w.alloc (.cells #[.int .u64 (x : Int), .int .u64 (y : Int)] 77) = W0 at *
    have HW0 := veil hW0
    clear h hn hb0 hrow hr0 hW0 c0 hl hij hjn
    subst hve
    obtain ⟨R, hR⟩ : ∃ R, repl l i j [if i < j then (min x (gl l i).1, max y (gl l (j - 1)).2) else (x, y)] = R := ⟨_, rfl⟩
    rw [hR]
    have HRR := veil hR
    clear hR
    go_enter Tryz.func46, Tryz.ntmps46
    go_wp2_with fail
    rw [HW0.out]
    refine HN.out.mono ?_
    rintro e1 w1 ⟨rfl, hb1⟩
    have HB1 := veil (HB0.out.trans (hb1.mono HB0.out.size))
    have HR1 := veil (HR0.out.below hb1 HR0.out.lt)
    have HROW1 := veil (HROW.out.below hb1)
    have c3 := HR1.out.cell 0
    have c4 := HR1.out.cell 1
    have f3 := HR1.out.frozen 0
    have f4 := HR1.out.frozen 1
    clear hb1 HN HB0 HR0 HROW HW0
    by_cases hlt : i < j
    · obtain ⟨g, o, hva, d1, d2⟩ := gl_cells (by have := HROW1.out; rw [HNC.out.1] at this; exact this) HNC.out.1 i (by have := HNC.out; omega)
      obtain ⟨g', o', hva', d3, d4⟩ := gl_cells (by have := HROW1.out; rw [HNC.out.1] at this; exact this) HNC.out.1 (j - 1) (by have := HNC.out; omega)
      rw [hva] at hva'
      injection hva' with hva'
      injection hva' with e1 e2
      subst e1 e2 hva
      have hR := HRR.out
      rw [if_pos hlt] at hR
      obtain ⟨A1, hA1⟩ : ∃ A1, (gl l i).1 = A1 := ⟨_, rfl⟩
      obtain ⟨B2, hB2⟩ : ∃ B2, (gl l (j - 1)).2 = B2 := ⟨_, rfl⟩
      rw [hA1] at d1 hR
      rw [hB2] at d4 hR
      have HRR2 := veil hR
      clear HRR hR
      obtain ⟨j1, hj1⟩ : ∃ j1, j1 = j - 1 := ⟨_, rfl⟩
      rw [← hj1] at d3 d4
      have w1' : IntKind.i64.wrap ((j : Int) - 1) = (j1 : Int) := by rw [IntKind.wrap_i64]; have := HNC.out; omega
      have bI : (i : Int) < (j : Int) := by omega
      have b1 : (i : Int) < (n : Int) := by have := HNC.out; omega
      have b2 : (j1 : Int) < (n : Int) := by have := HNC.out; omega
      clear hj1 hA1 hB2 d2 d3 hlt
      go_wp2_with fail
      go_region
      go_wp2_with fail
      have e3 : min (x : Int) (A1 : Int) = ((min x A1 : Nat) : Int) := by omega
      have e4 : max (y : Int) (B2 : Int) = ((max y B2 : Nat) : Int) := by omega
      rw [e3, e4]
      generalize hwa : (((w1.setCell ⟨w.heap.size, 0, none⟩ (.int .u64 ((min x A1 : Nat) : Int))).setCell ⟨w.heap.size, 1, none⟩ (.int .u64 ((max y B2 : Nat) : Int))).alloc (.cells #[.int .u64 ((min x A1 : Nat) : Int), .int .u64 ((max y B2 : Nat) : Int)] 77)).drew = wa
      have hz : ((w1.setCell ⟨w.heap.size, 0, none⟩ (.int .u64 ((min x A1 : Nat) : Int))).setCell ⟨w.heap.size, 1, none⟩ (.int .u64 ((max y B2 : Nat) : Int))).heap.size = w1.heap.size := by simp [World.setCell]
      have K1 : KeepP (fun k => k = w.heap.size) w1 wa := by
        rw [← hwa]
        refine ((KeepP.setCell (st := fun k => k = w.heap.size) rfl _ 0 (.int .u64 ((min x A1 : Nat) : Int))).trans (KeepP.setCell (st := fun k => k = w.heap.size) rfl _ 1 (.int .u64 ((max y B2 : Nat) : Int)))).trans (KeepP.of_below ?_)
        exact ((Below.refl _ _).alloc (Nat.le_refl _) _).drew
      have hlit : wa.heap[w1.heap.size]? = some (.cells (rC2 (min x A1, max y B2)) 77 (0, 0)) := by
        rw [← hwa]
        have := heap_alloc_new ((w1.setCell ⟨w.heap.size, 0, none⟩ (.int .u64 ((min x A1 : Nat) : Int))).setCell ⟨w.heap.size, 1, none⟩ (.int .u64 ((max y B2 : Nat) : Int))) (.cells #[.int .u64 ((min x A1 : Nat) : Int), .int .u64 ((max y B2 : Nat) : Int)] 77)
        rw [hz] at this
        exact this
      clear hwa hz e3 e4
      have KB : Below w.heap.size w wa := HB1.out.trans (K1.below (fun k e => by omega) HB1.out.size)
      have hra := HROW1.out.same (w' := wa) (fun k hk => K1.block k (HROW1.out.lt k hk) (fun e => by have := HWB.out k hk; omega))
      have hnb : (Value.slice (some ⟨g, o, none⟩) n vc).ownBlock ≠ some w1.heap.size := fun e => by have := HROW1.out.lt _ e; omega
      have HFIN := veil (rep_one wa hra (by have := HNC.out; omega) HNC.out.2.2.1 (by have := HNC.out; omega) (min x A1, max y B2) w1.heap.size hlit hnb)
      have HKB := veil KB
      rw [HRR2.out] at HFIN
      clear K1 KB hra hnb hlit c3 c4 f3 f4 d1 d4 HB1 HROW1 HR1
      refine HFIN.out.mono ?_
      rintro e5 w5 ⟨v5, rfl, hd5⟩
      have HD5 := veil (Done.behind HKB.out hd5)
      clear hd5 HFIN
      go_wp2
      go_ret
      exact ⟨v5, rfl, HD5.out⟩
    · have hR := HRR.out
      rw [if_neg hlt] at hR
      have HRR2 := veil hR
      clear HRR hR
      have bI : ¬ (i : Int) < (j : Int) := by omega
      clear hlt
      go_wp2_with fail
      generalize hwa : w1.alloc (.cells #[.int .u64 (x : Int), .int .u64 (y : Int)] 77) = wa
      have K1 : KeepP (fun k => k = w.heap.size) w1 wa := by
        rw [← hwa]
        exact KeepP.of_below ((Below.refl _ _).alloc (Nat.le_refl _) _)
      have hlit : wa.heap[w1.heap.size]? = some (.cells (rC2 (x, y)) 77 (0, 0)) := by
        rw [← hwa]
        exact heap_alloc_new w1 _
      clear hwa
      have KB : Below w.heap.size w wa := HB1.out.trans (K1.below (fun k e => by omega) HB1.out.size)
      have hra := HROW1.out.same (w' := wa) (fun k hk => K1.block k (HROW1.out.lt k hk) (fun e => by have := HWB.out k hk; omega))
      have hnb : (Value.slice va n vc).ownBlock ≠ some w1.heap.size := fun e => by have := HROW1.out.lt _ e; omega
      have HFIN := veil (rep_one wa hra (by have := HNC.out; omega) HNC.out.2.2.1 (by have := HNC.out; omega) (x, y) w1.heap.size hlit hnb)
      have HKB := veil KB
      rw [HRR2.out] at HFIN
      clear K1 KB hra hnb hlit c3 c4 f3 f4 HB1 HROW1 HR1
      refine HFIN.out.mono ?_
      rintro e5 w5 ⟨v5, rfl, hd5⟩
      have HD5 := veil (Done.behind HKB.out hd5)
      clear hd5 HFIN
      go_wp2
      go_ret
      exact ⟨v5, rfl, HD5.out⟩
end Sr
end Go.Proofs.YtehadfidenejdaaGreatDoor

/-! As FrSpine's: and what a spine's slot held ahead of the region, while it is not done. Written out of FrSpine.lean. -/
namespace Go.Proofs.YtehadfidenejdaaGreatDoor
open Go Go.RowKit

section
variable {F : Fence} {n : Nat} {P : Program} {ops : Array Oper} {Q : Exit → Act → World → Prop} {md : Region.Mode}
theorem anyIn_spine2 {a0 : Act} {W0 : World} (V : Nat → Value) (R : Nat → World → Value → Prop) (v0 : Value) (ch ds : List Nat) (dep dcl : Nat → List Nat) (hd : edgesB md ops dep = true) (hcl0 : ((List.range ops.size).all fun j => (dcl j).all fun i => (dep j).contains i || (dep j).any fun q => (dcl q).contains i) = true) (hlen : ds.length = ops.size) (hnd : ds.Nodup) (hchn : ch.Nodup)
    (hord : ∀ k i j, ch[k]? = some j → ch[k + 1]? = some i → j ∈ dep i)
    (hin : ∀ j ∈ ch, j < ops.size)
    (h0 : R 0 W0 v0)
    (hfix : ∀ (x : Nat → Value) (W : World) (m i d : Nat) (u : Value), R m W u → ds[i]? = some d → i ∉ ch → (∀ j ∈ dep i, j ∉ ch → x j = V j) → (∀ k j, ch[k]? = some j → j ∈ dep i → k < m) → (∀ k j, ch[k]? = some j → i ∈ dcl j → m ≤ k) → (∀ k j, ch[k]? = some j → m ≤ k → x j = a0.tmps.getD (ds.getD j 0) undef) → wpOpIn F n P ops Q i (fun a' W' => a' = (putsV a0 ds 0 x).put (some d) (V i) ∧ W' = W) (putsV a0 ds 0 x) W)
    (hcal : ∀ (x : Nat → Value) (W : World) (k i d : Nat) (u : Value), R k W u → ch[k]? = some i → ds[i]? = some d → (∀ j ∈ dep i, j ∉ ch → x j = V j) → (k = 0 → u = v0) → (∀ p j, k = p + 1 → ch[p]? = some j → x j = u) → wpOpIn F n P ops Q i (fun a' W' => ∃ v', a' = (putsV a0 ds 0 x).put (some d) v' ∧ R (k + 1) W' v') (putsV a0 ds 0 x) W)
    (hdone : ∀ (x : Nat → Value) (W : World) (u : Value), R ch.length W u → (∀ j, j < ops.size → j ∉ ch → x j = V j) → (∀ p j, ch.length = p + 1 → ch[p]? = some j → x j = u) → Q .normal (putsV a0 ds 0 x) W) : wpAnyIn F n P md ops Q ops.size (Array.replicate ops.size false) a0 W0 := by
  refine anyIn_inv2 (Inv := fun l a W => ∃ (x : Nat → Value) (m : Nat) (u : Value), a = putsV a0 ds 0 x ∧ R m W u ∧ (∀ j, On l j → j ∉ ch → x j = V j) ∧ (∀ j, On l j → ∀ i ∈ dep j, On l i) ∧ (∀ k j, ch[k]? = some j → (On l j ↔ k < m)) ∧ m ≤ ch.length ∧ (m = 0 → u = v0) ∧ (∀ p j, m = p + 1 → ch[p]? = some j → x j = u) ∧ (∀ k j, ch[k]? = some j → m ≤ k → x j = a0.tmps.getD (ds.getD j 0) undef)) dep ops.size rfl hd ?_ ?_ _ _ _ _ (by simp) (by simp) ?_
  · rintro l a W i hl ⟨x, m, u, rfl, h1, h2, h4, h5, h6, h8, h9, h10⟩ hi hno hdep
    have hi' : i < ds.length := by omega
    have hdi : ds[i]? = some ds[i] := List.getElem?_eq_getElem hi'
    have hfx : ∀ j ∈ dep i, j ∉ ch → x j = V j := fun j hj hc => h2 j (hdep j hj) hc
    have hlt : ∀ j, On l j → j < ops.size := by
      intro j hj
      unfold On at hj
      rcases Nat.lt_or_ge j l.size with h | h
      · omega
      · rw [Array.getD_eq_getD_getElem?, Array.getElem?_eq_none h] at hj
        cases hj
    have hback : ∀ j q, j < ops.size → q ∈ dep j → q < j := by
      intro j q hj hq
      have hall2 := List.all_eq_true.1 hd j (by rw [List.mem_range]; exact hj)
      rw [Array.getElem?_eq_getElem hj] at hall2
      simp only [Bool.and_eq_true] at hall2
      obtain ⟨e, he, he2⟩ := List.any_eq_true.1 (List.all_eq_true.1 hall2.1 q hq)
      simp only [Bool.and_eq_true, decide_eq_true_eq] at he2
      have h7 := List.all_eq_true.1 hall2.2 e he
      rw [he2.2] at h7
      simp only [Bool.not_true, Bool.false_or, decide_eq_true_eq] at h7
      omega
    have hclo : ∀ j, On l j → ∀ q ∈ dcl j, On l q := by
      intro j
      induction j using Nat.strongRecOn with
      | _ j ih =>
        intro hj q hq
        have h0 := List.all_eq_true.1 (List.all_eq_true.1 hcl0 j (by rw [List.mem_range]; exact hlt j hj)) q hq
        rw [Bool.or_eq_true] at h0
        rcases h0 with h0 | h0
        · exact h4 j hj q (by simpa using h0)
        · obtain ⟨p, hp, hp2⟩ := List.any_eq_true.1 h0
          exact ih p (hback j p (hlt j hj) hp) (h4 j hj p hp) q (by simpa using hp2)
    have hon : ∀ j, On (l.setIfInBounds i true) j ↔ j = i ∨ On l j := by
      intro j
      constructor
      · intro h
        by_cases e : j = i
        · exact .inl e
        · exact .inr (h.of_set (Ne.symm e))
      · rintro (rfl | h)
        · exact On.self (by omega)
        · exact h.set
    have hcl : ∀ j, On (l.setIfInBounds i true) j → ∀ i' ∈ dep j, On (l.setIfInBounds i true) i' := by
      intro j hj q hq
      rcases (hon j).1 hj with rfl | hj
      · exact (hdep q hq).set
      · exact (h4 j hj q hq).set
    by_cases hc : i ∈ ch
    · obtain ⟨k, hk, hki⟩ := List.getElem_of_mem hc
      have hk' : ch[k]? = some i := by rw [List.getElem?_eq_getElem hk, hki]
      have hmk : m ≤ k := Nat.le_of_not_lt fun h => hno ((h5 k i hk').2 h)
      have hm : m = k := by
        cases k with
        | zero => omega
        | succ p =>
          have hp : ch[p]? = some ch[p] := List.getElem?_eq_getElem (by omega)
          have := (h5 p _ hp).1 (hdep _ (hord p i _ hp hk'))
          omega
      subst hm
      refine wpOpIn_mono ?_ (hcal x W m i ds[i] u h1 hk' hdi hfx h8 h9)
      rintro a' W' ⟨v', rfl, hR⟩
      refine ⟨updV x i v', m + 1, v', ?_, hR, ?_, hcl, ?_, by omega, fun e => by omega, ?_, ?_⟩
      · rw [puts_put ds a0 0 i _ x _ hnd hdi, Nat.zero_add]
      · intro j hj hjc
        have hne : j ≠ i := fun e => hjc (e ▸ hc)
        unfold updV
        rw [if_neg hne]
        exact h2 j (((hon j).1 hj).resolve_left hne) hjc
      · intro k j hkj
        rw [hon j, h5 k j hkj]
        constructor
        · rintro (rfl | h)
          · by_cases hkm : k < m
            · omega
            · by_cases hkm2 : m < k
              · obtain ⟨p1, p2⟩ := List.getElem?_eq_some_iff.1 hkj
                obtain ⟨q1, q2⟩ := List.getElem?_eq_some_iff.1 hk'
                exact absurd (q2.trans p2.symm) (List.pairwise_iff_getElem.1 hchn m k q1 p1 hkm2)
              · omega
          · omega
        · intro h
          by_cases hkm : k = m
          · subst hkm
            rw [hkj] at hk'
            exact .inl (Option.some.inj hk')
          · exact .inr (by omega)
      · intro p j hp hpj
        obtain rfl : m = p := by omega
        rw [hk'] at hpj
        obtain rfl := Option.some.inj hpj
        unfold updV
        rw [if_pos rfl]
      · intro k j hkj hmk2
        have hne : j ≠ i := fun e => by
          subst e
          obtain ⟨p1, p2⟩ := List.getElem?_eq_some_iff.1 hkj
          obtain ⟨q1, q2⟩ := List.getElem?_eq_some_iff.1 hk'
          exact absurd (q2.trans p2.symm) (List.pairwise_iff_getElem.1 hchn m k q1 p1 (by omega))
        unfold updV
        rw [if_neg hne]
        exact h10 k j hkj (by omega)
    · refine wpOpIn_mono ?_ (hfix x W m i ds[i] u h1 hdi hc hfx (fun k j hkj hj => (h5 k j hkj).1 (hdep j hj)) (fun k j hkj hij => Nat.le_of_not_lt fun h => hno (hclo j ((h5 k j hkj).2 h) i hij)) h10)
      rintro a' W' ⟨rfl, rfl⟩
      refine ⟨updV x i (V i), m, u, ?_, h1, ?_, hcl, ?_, h6, h8, ?_, ?_⟩
      · rw [puts_put ds a0 0 i _ x _ hnd hdi, Nat.zero_add]
      · intro j hj hjc
        unfold updV
        split
        · rename_i e; rw [e]
        · rename_i e; exact h2 j (((hon j).1 hj).resolve_left e) hjc
      · intro k j hkj
        have hne : j ≠ i := fun e => hc (e ▸ List.mem_of_getElem? hkj)
        rw [hon j, ← h5 k j hkj]
        exact ⟨fun h => h.resolve_left hne, .inr⟩
      · intro p j hp hpj
        have hne : j ≠ i := fun e => hc (e ▸ List.mem_of_getElem? hpj)
        unfold updV
        rw [if_neg hne]
        exact h9 p j hp hpj
      · intro k j hkj hmk
        have hne : j ≠ i := fun e => hc (e ▸ List.mem_of_getElem? hkj)
        unfold updV
        rw [if_neg hne]
        exact h10 k j hkj hmk
  · rintro l a W ⟨x, m, u, rfl, h1, h2, h4, h5, h6, h8, h9, _⟩ hon
    have hm : m = ch.length := by
      rcases Nat.eq_or_lt_of_le h6 with e | e
      · exact e
      · have hp : ch[m]? = some ch[m] := List.getElem?_eq_getElem e
        have := (h5 m _ hp).1 (hon _ (hin _ (List.getElem_mem e)))
        omega
    subst hm
    exact hdone x W u h1 (fun j hj hjc => h2 j (hon j hj) hjc) h9
  · exact ⟨_, 0, v0, (puts_start a0 ds 0).symm, h0, fun j hj => absurd hj (On.none _ _), fun j hj => absurd hj (On.none _ _), fun k j _ => ⟨fun h => absurd h (On.none _ _), fun h => absurd h (Nat.not_lt_zero _)⟩, Nat.zero_le _, fun _ => rfl, (fun p j h => by omega), fun k j _ _ => rfl⟩
end
end Go.Proofs.YtehadfidenejdaaGreatDoor
