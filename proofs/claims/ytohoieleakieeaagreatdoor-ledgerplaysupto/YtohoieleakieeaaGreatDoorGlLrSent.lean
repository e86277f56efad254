/-
  Written by mklrsent.py: the document's Sent.
-/
import Derived.Test.YtohoieleakieeaaGreatDoorGl16
namespace Go.Proofs.YtohoieleakieeaaGreatDoor
open Go Go.RowKit

set_option maxRecDepth 20000 in
set_option maxHeartbeats 1000000 in
theorem refSent_no0 (g : Nat) (v : Value) (s : Lg.Led) (num : Nat) (size : Int) (now : Nat) (asks : Bool) (w : World) (h : RdOk w g v s)  (h0 : 4611686018427387903 < num) :
    Calls Tryz.prog 8 #[.pointer (some ⟨g, 0, none⟩), .int .u64 (num : Int), .int .i64 size, .int .u64 (now : Int), .bool asks] w fun e w' => e = .returned (.int .i64 1) ∧ w' = w := by
  have a1 : decide ((4611686018427387903 : Int) < (num : Int)) = true := by simp; omega
  have a2 : decide (4611686018427387903 < num) = true := by simp; omega
  have c1 := h.cells.c1
  have c2 := h.cells.c2
  have c4 := h.cells.c4
  clear h h0
  go_enter Tryz.func8, Tryz.ntmps8
  go_wp2
  go_ret
  exact ⟨rfl, rfl⟩
set_option maxRecDepth 20000 in
set_option maxHeartbeats 1000000 in
theorem refSent_no1 (g : Nat) (v : Value) (s : Lg.Led) (num : Nat) (size : Int) (now : Nat) (asks : Bool) (w : World) (h : RdOk w g v s) (h0 : num ≤ 4611686018427387903) (h1 : s.any = true ∧ num ≤ s.last) :
    Calls Tryz.prog 8 #[.pointer (some ⟨g, 0, none⟩), .int .u64 (num : Int), .int .i64 size, .int .u64 (now : Int), .bool asks] w fun e w' => e = .returned (.int .i64 1) ∧ w' = w := by
  have a1 : decide ((4611686018427387903 : Int) < (num : Int)) = false := by simp; omega
  have a2 : decide (4611686018427387903 < num) = false := by simp; omega
  have c1 := h.cells.c1
  have c2 := h.cells.c2
  have c4 := h.cells.c4
  rw [h1.1] at c1
  have b1 : decide ((num : Int) ≤ (s.last : Int)) = true := by simp; omega
  have b2 : decide (num ≤ s.last) = true := by simp; omega
  clear h h0 h1
  go_enter Tryz.func8, Tryz.ntmps8
  go_wp2
  go_ret
  exact ⟨rfl, rfl⟩
set_option maxRecDepth 20000 in
set_option maxHeartbeats 1000000 in
theorem refSent_no2 (g : Nat) (v : Value) (s : Lg.Led) (num : Nat) (size : Int) (now : Nat) (asks : Bool) (w : World) (h : RdOk w g v s) (h0 : num ≤ 4611686018427387903) (h1 : (s.any = true → s.last < num)) (h2 : size < 1) :
    Calls Tryz.prog 8 #[.pointer (some ⟨g, 0, none⟩), .int .u64 (num : Int), .int .i64 size, .int .u64 (now : Int), .bool asks] w fun e w' => e = .returned (.int .i64 1) ∧ w' = w := by
  have a1 : decide ((4611686018427387903 : Int) < (num : Int)) = false := by simp; omega
  have a2 : decide (4611686018427387903 < num) = false := by simp; omega
  have c1 : decide (size < (1 : Int)) = true := by simp; omega
  have c1 := h.cells.c1
  have c2 := h.cells.c2
  have c4 := h.cells.c4
  cases hany : s.any
  · rw [hany] at c1
    clear h hany h1 h0 h2
    go_enter Tryz.func8, Tryz.ntmps8
    go_wp2
    go_ret
    exact ⟨rfl, rfl⟩
  · rw [hany] at c1
    have h1 := h1 hany
    have b1 : decide ((num : Int) ≤ (s.last : Int)) = false := by simp; omega
    have b2 : decide (num ≤ s.last) = false := by simp; omega
    clear h hany h1 h0 h2
    go_enter Tryz.func8, Tryz.ntmps8
    go_wp2
    go_ret
    exact ⟨rfl, rfl⟩
set_option maxRecDepth 20000 in
set_option maxHeartbeats 1000000 in
theorem refSent_no3 (g : Nat) (v : Value) (s : Lg.Led) (num : Nat) (size : Int) (now : Nat) (asks : Bool) (w : World) (h : RdOk w g v s) (h0 : num ≤ 4611686018427387903) (h1 : (s.any = true → s.last < num)) (h2 : 1 ≤ size) (h3 : 1200 < size) :
    Calls Tryz.prog 8 #[.pointer (some ⟨g, 0, none⟩), .int .u64 (num : Int), .int .i64 size, .int .u64 (now : Int), .bool asks] w fun e w' => e = .returned (.int .i64 1) ∧ w' = w := by
  have a1 : decide ((4611686018427387903 : Int) < (num : Int)) = false := by simp; omega
  have a2 : decide (4611686018427387903 < num) = false := by simp; omega
  have c1 : decide (size < (1 : Int)) = false := by simp; omega
  have d1 : decide ((1200 : Int) < size) = true := by simp; omega
  have c1 := h.cells.c1
  have c2 := h.cells.c2
  have c4 := h.cells.c4
  cases hany : s.any
  · rw [hany] at c1
    clear h hany h1 h0 h2 h3
    go_enter Tryz.func8, Tryz.ntmps8
    go_wp2
    go_ret
    exact ⟨rfl, rfl⟩
  · rw [hany] at c1
    have h1 := h1 hany
    have b1 : decide ((num : Int) ≤ (s.last : Int)) = false := by simp; omega
    have b2 : decide (num ≤ s.last) = false := by simp; omega
    clear h hany h1 h0 h2 h3
    go_enter Tryz.func8, Tryz.ntmps8
    go_wp2
    go_ret
    exact ⟨rfl, rfl⟩
set_option maxRecDepth 20000 in
set_option maxHeartbeats 1000000 in
theorem refSent_no4 (g : Nat) (v : Value) (s : Lg.Led) (num : Nat) (size : Int) (now : Nat) (asks : Bool) (w : World) (h : RdOk w g v s) (h0 : num ≤ 4611686018427387903) (h1 : (s.any = true → s.last < num)) (h2 : 1 ≤ size) (h3 : size ≤ 1200) (h4 : 1099511627775 < now) :
    Calls Tryz.prog 8 #[.pointer (some ⟨g, 0, none⟩), .int .u64 (num : Int), .int .i64 size, .int .u64 (now : Int), .bool asks] w fun e w' => e = .returned (.int .i64 1) ∧ w' = w := by
  have a1 : decide ((4611686018427387903 : Int) < (num : Int)) = false := by simp; omega
  have a2 : decide (4611686018427387903 < num) = false := by simp; omega
  have c1 : decide (size < (1 : Int)) = false := by simp; omega
  have d1 : decide ((1200 : Int) < size) = false := by simp; omega
  have e1 : decide ((1099511627775 : Int) < (now : Int)) = true := by simp; omega
  have e2 : decide (1099511627775 < now) = true := by simp; omega
  have c1 := h.cells.c1
  have c2 := h.cells.c2
  have c4 := h.cells.c4
  cases hany : s.any
  · rw [hany] at c1
    clear h hany h1 h0 h2 h3 h4
    go_enter Tryz.func8, Tryz.ntmps8
    go_wp2
    go_ret
    exact ⟨rfl, rfl⟩
  · rw [hany] at c1
    have h1 := h1 hany
    have b1 : decide ((num : Int) ≤ (s.last : Int)) = false := by simp; omega
    have b2 : decide (num ≤ s.last) = false := by simp; omega
    clear h hany h1 h0 h2 h3 h4
    go_enter Tryz.func8, Tryz.ntmps8
    go_wp2
    go_ret
    exact ⟨rfl, rfl⟩
set_option maxRecDepth 20000 in
set_option maxHeartbeats 1000000 in
theorem refSent_no5 (g : Nat) (v : Value) (s : Lg.Led) (num : Nat) (size : Int) (now : Nat) (asks : Bool) (w : World) (h : RdOk w g v s) (h0 : num ≤ 4611686018427387903) (h1 : (s.any = true → s.last < num)) (h2 : 1 ≤ size) (h3 : size ≤ 1200) (h4 : now ≤ 1099511627775) (h5 : now < s.now) :
    Calls Tryz.prog 8 #[.pointer (some ⟨g, 0, none⟩), .int .u64 (num : Int), .int .i64 size, .int .u64 (now : Int), .bool asks] w fun e w' => e = .returned (.int .i64 1) ∧ w' = w := by
  have a1 : decide ((4611686018427387903 : Int) < (num : Int)) = false := by simp; omega
  have a2 : decide (4611686018427387903 < num) = false := by simp; omega
  have c1 : decide (size < (1 : Int)) = false := by simp; omega
  have d1 : decide ((1200 : Int) < size) = false := by simp; omega
  have e1 : decide ((1099511627775 : Int) < (now : Int)) = false := by simp; omega
  have e2 : decide (1099511627775 < now) = false := by simp; omega
  have f1 : decide ((now : Int) < (s.now : Int)) = true := by simp; omega
  have f2 : decide (now < s.now) = true := by simp; omega
  have c1 := h.cells.c1
  have c2 := h.cells.c2
  have c4 := h.cells.c4
  cases hany : s.any
  · rw [hany] at c1
    clear h hany h1 h0 h2 h3 h4 h5
    go_enter Tryz.func8, Tryz.ntmps8
    go_wp2
    go_ret
    exact ⟨rfl, rfl⟩
  · rw [hany] at c1
    have h1 := h1 hany
    have b1 : decide ((num : Int) ≤ (s.last : Int)) = false := by simp; omega
    have b2 : decide (num ≤ s.last) = false := by simp; omega
    clear h hany h1 h0 h2 h3 h4 h5
    go_enter Tryz.func8, Tryz.ntmps8
    go_wp2
    go_ret
    exact ⟨rfl, rfl⟩
set_option maxRecDepth 20000 in
set_option maxHeartbeats 2000000 in
theorem refSent_yes (g : Nat) (v : Value) (s : Lg.Led) (num : Nat) (size : Int) (now : Nat) (asks : Bool) (w : World) (h : RdOk w g v s) (h0 : num ≤ 4611686018427387903) (h1 : (s.any = true → s.last < num)) (h2 : 1 ≤ size) (h3 : size ≤ 1200) (h4 : now ≤ 1099511627775) (h5 : s.now ≤ now) (hl : s.way.length ≤ 2000) :
    Calls Tryz.prog 8 #[.pointer (some ⟨g, 0, none⟩), .int .u64 (num : Int), .int .i64 size, .int .u64 (now : Int), .bool asks] w fun e w' => e = .returned (.int .i64 0) ∧ ∃ v', RdOk w' g v' { s with now := now, any := true, last := num, asked := if asks then now else s.asked, way := s.way ++ [⟨num, size.toNat, now, asks⟩] } ∧ KeepL g v w w' ∧ Stay v v' w := by
  have a1 : decide ((4611686018427387903 : Int) < (num : Int)) = false := by simp; omega
  have a2 : decide (4611686018427387903 < num) = false := by simp; omega
  have c1 : decide (size < (1 : Int)) = false := by simp; omega
  have d1 : decide ((1200 : Int) < size) = false := by simp; omega
  have e1 : decide ((1099511627775 : Int) < (now : Int)) = false := by simp; omega
  have e2 : decide (1099511627775 < now) = false := by simp; omega
  have f1 : decide ((now : Int) < (s.now : Int)) = false := by simp; omega
  have f2 : decide (now < s.now) = false := by simp; omega
  obtain ⟨sz, rfl⟩ : ∃ sz : Nat, size = (sz : Int) := ⟨size.toNat, by omega⟩
  rw [show ((sz : Int)).toNat = sz from Int.toNat_natCast sz]
  obtain ⟨va, vc, hva, _, _⟩ := h.way.shape
  have l1 : decide ((1048576 : Int) ≤ (s.way.length : Int)) = false := by simp; omega
  have l2 : decide (1048576 ≤ s.way.length) = false := by simp; omega
  have HL := veil hl
  have c0 := h.cells.c0
  have c1 := h.cells.c1
  have c2 := h.cells.c2
  have c3 := h.cells.c3
  have c4 := h.cells.c4
  have f0 := h.cells.f 0
  have f1 := h.cells.f 1
  have f2 := h.cells.f 2
  have f3 := h.cells.f 3
  have f4 := h.cells.f 4
  have HH := veil h
  clear h h0 h2 h3 h4 h5 hl
  cases hany : s.any
  · rw [hany] at c1
    clear h1 hany
    cases asks
    · obtain ⟨W1, hW1⟩ : ∃ W1, W1 = (((w.setCell ⟨g, 4, none⟩ (.int .u64 (now : Int))).setCell ⟨g, 1, none⟩ (.bool true)).setCell ⟨g, 2, none⟩ (.int .u64 (num : Int))) := ⟨_, rfl⟩
      have row1 : Row W1 g 74 (rdC v { s with now := now, any := true, last := num, asked := s.asked }) := by rw [hW1]; exact (((HH.out.row.set 4 (.int .u64 (now : Int))).set 1 (.bool true)).set 2 (.int .u64 (num : Int)))
      have kp1 : KeepL g v w W1 := by rw [hW1]; exact ((((KeepP.refl _ w).trans (KeepP.setCell (st := fun k => k = g ∨ v.ownBlock = some k) (g := g) (.inl rfl) _ 4 (.int .u64 (now : Int)))).trans (KeepP.setCell (st := fun k => k = g ∨ v.ownBlock = some k) (g := g) (.inl rfl) _ 1 (.bool true))).trans (KeepP.setCell (st := fun k => k = g ∨ v.ownBlock = some k) (g := g) (.inl rfl) _ 2 (.int .u64 (num : Int))))
      have hz1 : W1.heap.size = w.heap.size := by rw [hW1]; simp [World.setCell]
      have way1 : RowO W1 80 4 v s.way.length (vp s.way) := HH.out.way.same (fun k hk => by
        have hne : k ≠ g := fun q => HH.out.apart (by rw [← q]; exact hk)
        rw [hW1]
        rw [Below.heap_setCell _ _ _ _ hne, Below.heap_setCell _ _ _ _ hne, Below.heap_setCell _ _ _ _ hne])
      have hb1 : Below W1.heap.size W1 (W1.alloc (.cells (pkC ⟨num, sz, now, false⟩) 80)) := (Below.refl _ W1).alloc (Nat.le_refl _) _
      obtain ⟨v', W2, q1, q2, q3⟩ := pr_append (W1.alloc (.cells (pkC ⟨num, sz, now, false⟩) 80)) 72 v s.way ⟨num, sz, now, false⟩ W1.heap.size (way1.below hb1) (Row.new _ _ _) (by have := HL.out; omega)
      obtain ⟨tl, htl⟩ : ∃ tl, (s.way ++ [(⟨num, sz, now, false⟩ : Lg.Pk)]).length = tl := ⟨_, rfl⟩
      obtain ⟨wa, wc, hws, _, _⟩ := q2.shape
      rw [htl] at hws
      have k2 : KeepP (fun k => v.ownBlock = some k) W1 W2 := (KeepP.of_below hb1).trans (keepL_of (q3.imp (fun q => q.2) (fun q => q.1)))
      have row2 := k2.row row1 HH.out.apart
      have st2 : ∀ k, v'.ownBlock = some k → v.ownBlock = some k ∨ w.heap.size ≤ k := fun k hk => by
        rcases q3 with ⟨q, _⟩ | ⟨_, q⟩
        · rw [q] at hk; exact .inl hk
        · right; rw [q k hk]; simp; omega
      have hne2 : v'.ownBlock ≠ some g := fun q => (st2 g q).elim HH.out.apart (fun q => by have := HH.out.lt; omega)
      have HFIN := veil (show RdOk (W2.setCell ⟨g, 0, none⟩ v') g v' { s with now := now, any := true, last := num, asked := s.asked, way := s.way ++ [⟨num, sz, now, false⟩] } ∧ KeepL g v w (W2.setCell ⟨g, 0, none⟩ v') from ⟨⟨row2.set 0 v', q2.same (fun k hk => Below.heap_setCell _ _ _ _ (fun q => hne2 (by rw [show g = k from q.symm]; exact hk)))⟩, (kp1.trans (KeepP.mono k2 (fun k q => .inr q))).trans (KeepP.setCell (.inl rfl) _ _ _)⟩)
      have z0 : W2.cell? ⟨g, 0, none⟩ = some v := row2.cell 0
      have zf := row2.frozen 0
      have HST := veil st2
      have Q1 := veil q1
      rw [hz1] at Q1
      subst hW1
      subst hws
      clear htl
      clear q1 q2 q3 k2 row2 st2 hne2 row1 kp1 way1 hb1 hz1
      unfold pkC at Q1
      subst hva
      go_enter Tryz.func8, Tryz.ntmps8
      go_wp2_with (with_reducible (show wpList _ _ _ (⟨some 80, Op.call _, _, _, _, _⟩ :: _) _ _)
                   refine wpL_append rfl _ _ _ rfl _ _ _ _ rfl rfl Q1.out ?_)
      go_ret
      exact ⟨rfl, _, HFIN.out.1, HFIN.out.2, HST.out⟩
    · obtain ⟨W1, hW1⟩ : ∃ W1, W1 = ((((w.setCell ⟨g, 4, none⟩ (.int .u64 (now : Int))).setCell ⟨g, 1, none⟩ (.bool true)).setCell ⟨g, 2, none⟩ (.int .u64 (num : Int))).setCell ⟨g, 3, none⟩ (.int .u64 (now : Int))) := ⟨_, rfl⟩
      have row1 : Row W1 g 74 (rdC v { s with now := now, any := true, last := num, asked := now }) := by rw [hW1]; exact ((((HH.out.row.set 4 (.int .u64 (now : Int))).set 1 (.bool true)).set 2 (.int .u64 (num : Int))).set 3 (.int .u64 (now : Int)))
      have kp1 : KeepL g v w W1 := by rw [hW1]; exact (((((KeepP.refl _ w).trans (KeepP.setCell (st := fun k => k = g ∨ v.ownBlock = some k) (g := g) (.inl rfl) _ 4 (.int .u64 (now : Int)))).trans (KeepP.setCell (st := fun k => k = g ∨ v.ownBlock = some k) (g := g) (.inl rfl) _ 1 (.bool true))).trans (KeepP.setCell (st := fun k => k = g ∨ v.ownBlock = some k) (g := g) (.inl rfl) _ 2 (.int .u64 (num : Int)))).trans (KeepP.setCell (st := fun k => k = g ∨ v.ownBlock = some k) (g := g) (.inl rfl) _ 3 (.int .u64 (now : Int))))
      have hz1 : W1.heap.size = w.heap.size := by rw [hW1]; simp [World.setCell]
      have way1 : RowO W1 80 4 v s.way.length (vp s.way) := HH.out.way.same (fun k hk => by
        have hne : k ≠ g := fun q => HH.out.apart (by rw [← q]; exact hk)
        rw [hW1]
        rw [Below.heap_setCell _ _ _ _ hne, Below.heap_setCell _ _ _ _ hne, Below.heap_setCell _ _ _ _ hne, Below.heap_setCell _ _ _ _ hne])
      have hb1 : Below W1.heap.size W1 (W1.alloc (.cells (pkC ⟨num, sz, now, true⟩) 80)) := (Below.refl _ W1).alloc (Nat.le_refl _) _
      obtain ⟨v', W2, q1, q2, q3⟩ := pr_append (W1.alloc (.cells (pkC ⟨num, sz, now, true⟩) 80)) 72 v s.way ⟨num, sz, now, true⟩ W1.heap.size (way1.below hb1) (Row.new _ _ _) (by have := HL.out; omega)
      obtain ⟨tl, htl⟩ : ∃ tl, (s.way ++ [(⟨num, sz, now, true⟩ : Lg.Pk)]).length = tl := ⟨_, rfl⟩
      obtain ⟨wa, wc, hws, _, _⟩ := q2.shape
      rw [htl] at hws
      have k2 : KeepP (fun k => v.ownBlock = some k) W1 W2 := (KeepP.of_below hb1).trans (keepL_of (q3.imp (fun q => q.2) (fun q => q.1)))
      have row2 := k2.row row1 HH.out.apart
      have st2 : ∀ k, v'.ownBlock = some k → v.ownBlock = some k ∨ w.heap.size ≤ k := fun k hk => by
        rcases q3 with ⟨q, _⟩ | ⟨_, q⟩
        · rw [q] at hk; exact .inl hk
        · right; rw [q k hk]; simp; omega
      have hne2 : v'.ownBlock ≠ some g := fun q => (st2 g q).elim HH.out.apart (fun q => by have := HH.out.lt; omega)
      have HFIN := veil (show RdOk (W2.setCell ⟨g, 0, none⟩ v') g v' { s with now := now, any := true, last := num, asked := now, way := s.way ++ [⟨num, sz, now, true⟩] } ∧ KeepL g v w (W2.setCell ⟨g, 0, none⟩ v') from ⟨⟨row2.set 0 v', q2.same (fun k hk => Below.heap_setCell _ _ _ _ (fun q => hne2 (by rw [show g = k from q.symm]; exact hk)))⟩, (kp1.trans (KeepP.mono k2 (fun k q => .inr q))).trans (KeepP.setCell (.inl rfl) _ _ _)⟩)
      have z0 : W2.cell? ⟨g, 0, none⟩ = some v := row2.cell 0
      have zf := row2.frozen 0
      have HST := veil st2
      have Q1 := veil q1
      rw [hz1] at Q1
      subst hW1
      subst hws
      clear htl
      clear q1 q2 q3 k2 row2 st2 hne2 row1 kp1 way1 hb1 hz1
      unfold pkC at Q1
      subst hva
      go_enter Tryz.func8, Tryz.ntmps8
      go_wp2_with (with_reducible (show wpList _ _ _ (⟨some 80, Op.call _, _, _, _, _⟩ :: _) _ _)
                   refine wpL_append rfl _ _ _ rfl _ _ _ _ rfl rfl Q1.out ?_)
      go_ret
      exact ⟨rfl, _, HFIN.out.1, HFIN.out.2, HST.out⟩
  · rw [hany] at c1
    have h1 := h1 hany
    have b1 : decide ((num : Int) ≤ (s.last : Int)) = false := by simp; omega
    have b2 : decide (num ≤ s.last) = false := by simp; omega
    clear h1 hany
    cases asks
    · obtain ⟨W1, hW1⟩ : ∃ W1, W1 = (((w.setCell ⟨g, 4, none⟩ (.int .u64 (now : Int))).setCell ⟨g, 1, none⟩ (.bool true)).setCell ⟨g, 2, none⟩ (.int .u64 (num : Int))) := ⟨_, rfl⟩
      have row1 : Row W1 g 74 (rdC v { s with now := now, any := true, last := num, asked := s.asked }) := by rw [hW1]; exact (((HH.out.row.set 4 (.int .u64 (now : Int))).set 1 (.bool true)).set 2 (.int .u64 (num : Int)))
      have kp1 : KeepL g v w W1 := by rw [hW1]; exact ((((KeepP.refl _ w).trans (KeepP.setCell (st := fun k => k = g ∨ v.ownBlock = some k) (g := g) (.inl rfl) _ 4 (.int .u64 (now : Int)))).trans (KeepP.setCell (st := fun k => k = g ∨ v.ownBlock = some k) (g := g) (.inl rfl) _ 1 (.bool true))).trans (KeepP.setCell (st := fun k => k = g ∨ v.ownBlock = some k) (g := g) (.inl rfl) _ 2 (.int .u64 (num : Int))))
      have hz1 : W1.heap.size = w.heap.size := by rw [hW1]; simp [World.setCell]
      have way1 : RowO W1 80 4 v s.way.length (vp s.way) := HH.out.way.same (fun k hk => by
        have hne : k ≠ g := fun q => HH.out.apart (by rw [← q]; exact hk)
        rw [hW1]
        rw [Below.heap_setCell _ _ _ _ hne, Below.heap_setCell _ _ _ _ hne, Below.heap_setCell _ _ _ _ hne])
      have hb1 : Below W1.heap.size W1 (W1.alloc (.cells (pkC ⟨num, sz, now, false⟩) 80)) := (Below.refl _ W1).alloc (Nat.le_refl _) _
      obtain ⟨v', W2, q1, q2, q3⟩ := pr_append (W1.alloc (.cells (pkC ⟨num, sz, now, false⟩) 80)) 72 v s.way ⟨num, sz, now, false⟩ W1.heap.size (way1.below hb1) (Row.new _ _ _) (by have := HL.out; omega)
      obtain ⟨tl, htl⟩ : ∃ tl, (s.way ++ [(⟨num, sz, now, false⟩ : Lg.Pk)]).length = tl := ⟨_, rfl⟩
      obtain ⟨wa, wc, hws, _, _⟩ := q2.shape
      rw [htl] at hws
      have k2 : KeepP (fun k => v.ownBlock = some k) W1 W2 := (KeepP.of_below hb1).trans (keepL_of (q3.imp (fun q => q.2) (fun q => q.1)))
      have row2 := k2.row row1 HH.out.apart
      have st2 : ∀ k, v'.ownBlock = some k → v.ownBlock = some k ∨ w.heap.size ≤ k := fun k hk => by
        rcases q3 with ⟨q, _⟩ | ⟨_, q⟩
        · rw [q] at hk; exact .inl hk
        · right; rw [q k hk]; simp; omega
      have hne2 : v'.ownBlock ≠ some g := fun q => (st2 g q).elim HH.out.apart (fun q => by have := HH.out.lt; omega)
      have HFIN := veil (show RdOk (W2.setCell ⟨g, 0, none⟩ v') g v' { s with now := now, any := true, last := num, asked := s.asked, way := s.way ++ [⟨num, sz, now, false⟩] } ∧ KeepL g v w (W2.setCell ⟨g, 0, none⟩ v') from ⟨⟨row2.set 0 v', q2.same (fun k hk => Below.heap_setCell _ _ _ _ (fun q => hne2 (by rw [show g = k from q.symm]; exact hk)))⟩, (kp1.trans (KeepP.mono k2 (fun k q => .inr q))).trans (KeepP.setCell (.inl rfl) _ _ _)⟩)
      have z0 : W2.cell? ⟨g, 0, none⟩ = some v := row2.cell 0
      have zf := row2.frozen 0
      have HST := veil st2
      have Q1 := veil q1
      rw [hz1] at Q1
      subst hW1
      subst hws
      clear htl
      clear q1 q2 q3 k2 row2 st2 hne2 row1 kp1 way1 hb1 hz1
      unfold pkC at Q1
      subst hva
      go_enter Tryz.func8, Tryz.ntmps8
      go_wp2_with (with_reducible (show wpList _ _ _ (⟨some 80, Op.call _, _, _, _, _⟩ :: _) _ _)
                   refine wpL_append rfl _ _ _ rfl _ _ _ _ rfl rfl Q1.out ?_)
      go_ret
      exact ⟨rfl, _, HFIN.out.1, HFIN.out.2, HST.out⟩
    · obtain ⟨W1, hW1⟩ : ∃ W1, W1 = ((((w.setCell ⟨g, 4, none⟩ (.int .u64 (now : Int))).setCell ⟨g, 1, none⟩ (.bool true)).setCell ⟨g, 2, none⟩ (.int .u64 (num : Int))).setCell ⟨g, 3, none⟩ (.int .u64 (now : Int))) := ⟨_, rfl⟩
      have row1 : Row W1 g 74 (rdC v { s with now := now, any := true, last := num, asked := now }) := by rw [hW1]; exact ((((HH.out.row.set 4 (.int .u64 (now : Int))).set 1 (.bool true)).set 2 (.int .u64 (num : Int))).set 3 (.int .u64 (now : Int)))
      have kp1 : KeepL g v w W1 := by rw [hW1]; exact (((((KeepP.refl _ w).trans (KeepP.setCell (st := fun k => k = g ∨ v.ownBlock = some k) (g := g) (.inl rfl) _ 4 (.int .u64 (now : Int)))).trans (KeepP.setCell (st := fun k => k = g ∨ v.ownBlock = some k) (g := g) (.inl rfl) _ 1 (.bool true))).trans (KeepP.setCell (st := fun k => k = g ∨ v.ownBlock = some k) (g := g) (.inl rfl) _ 2 (.int .u64 (num : Int)))).trans (KeepP.setCell (st := fun k => k = g ∨ v.ownBlock = some k) (g := g) (.inl rfl) _ 3 (.int .u64 (now : Int))))
      have hz1 : W1.heap.size = w.heap.size := by rw [hW1]; simp [World.setCell]
      have way1 : RowO W1 80 4 v s.way.length (vp s.way) := HH.out.way.same (fun k hk => by
        have hne : k ≠ g := fun q => HH.out.apart (by rw [← q]; exact hk)
        rw [hW1]
        rw [Below.heap_setCell _ _ _ _ hne, Below.heap_setCell _ _ _ _ hne, Below.heap_setCell _ _ _ _ hne, Below.heap_setCell _ _ _ _ hne])
      have hb1 : Below W1.heap.size W1 (W1.alloc (.cells (pkC ⟨num, sz, now, true⟩) 80)) := (Below.refl _ W1).alloc (Nat.le_refl _) _
      obtain ⟨v', W2, q1, q2, q3⟩ := pr_append (W1.alloc (.cells (pkC ⟨num, sz, now, true⟩) 80)) 72 v s.way ⟨num, sz, now, true⟩ W1.heap.size (way1.below hb1) (Row.new _ _ _) (by have := HL.out; omega)
      obtain ⟨tl, htl⟩ : ∃ tl, (s.way ++ [(⟨num, sz, now, true⟩ : Lg.Pk)]).length = tl := ⟨_, rfl⟩
      obtain ⟨wa, wc, hws, _, _⟩ := q2.shape
      rw [htl] at hws
      have k2 : KeepP (fun k => v.ownBlock = some k) W1 W2 := (KeepP.of_below hb1).trans (keepL_of (q3.imp (fun q => q.2) (fun q => q.1)))
      have row2 := k2.row row1 HH.out.apart
      have st2 : ∀ k, v'.ownBlock = some k → v.ownBlock = some k ∨ w.heap.size ≤ k := fun k hk => by
        rcases q3 with ⟨q, _⟩ | ⟨_, q⟩
        · rw [q] at hk; exact .inl hk
        · right; rw [q k hk]; simp; omega
      have hne2 : v'.ownBlock ≠ some g := fun q => (st2 g q).elim HH.out.apart (fun q => by have := HH.out.lt; omega)
      have HFIN := veil (show RdOk (W2.setCell ⟨g, 0, none⟩ v') g v' { s with now := now, any := true, last := num, asked := now, way := s.way ++ [⟨num, sz, now, true⟩] } ∧ KeepL g v w (W2.setCell ⟨g, 0, none⟩ v') from ⟨⟨row2.set 0 v', q2.same (fun k hk => Below.heap_setCell _ _ _ _ (fun q => hne2 (by rw [show g = k from q.symm]; exact hk)))⟩, (kp1.trans (KeepP.mono k2 (fun k q => .inr q))).trans (KeepP.setCell (.inl rfl) _ _ _)⟩)
      have z0 : W2.cell? ⟨g, 0, none⟩ = some v := row2.cell 0
      have zf := row2.frozen 0
      have HST := veil st2
      have Q1 := veil q1
      rw [hz1] at Q1
      subst hW1
      subst hws
      clear htl
      clear q1 q2 q3 k2 row2 st2 hne2 row1 kp1 way1 hb1 hz1
      unfold pkC at Q1
      subst hva
      go_enter Tryz.func8, Tryz.ntmps8
      go_wp2_with (with_reducible (show wpList _ _ _ (⟨some 80, Op.call _, _, _, _, _⟩ :: _) _ _)
                   refine wpL_append rfl _ _ _ rfl _ _ _ _ rfl rfl Q1.out ?_)
      go_ret
      exact ⟨rfl, _, HFIN.out.1, HFIN.out.2, HST.out⟩
theorem refSent_any (g : Nat) (v : Value) (s : Lg.Led) (num : Nat) (size : Int) (now : Nat) (asks : Bool) (w : World) (h : RdOk w g v s) (hl : s.way.length ≤ 2000) :
    Calls Tryz.prog 8 #[.pointer (some ⟨g, 0, none⟩), .int .u64 (num : Int), .int .i64 size, .int .u64 (now : Int), .bool asks] w fun e w' => e = .returned (.int .i64 (Lg.sentE s num size now)) ∧ ∃ v', RdOk w' g v' (Lg.sent s num size now asks) ∧ KeepL g v w w' ∧ Stay v v' w := by
  have hl9 : s.way.length < 1048576 := by omega
  by_cases c : Lg.sentE s num size now = 0
  · have c' := c
    unfold Lg.sentE at c'
    rw [if_pos hl9] at c'
    split at c'
    · rename_i q
      refine (refSent_yes g v s num size now asks w h q.1 q.2.1 q.2.2.1 q.2.2.2.1 q.2.2.2.2.1 q.2.2.2.2.2 hl).mono ?_
      rintro e w' ⟨rfl, hr⟩
      unfold Lg.sent
      rw [c, if_pos rfl]
      exact ⟨rfl, hr⟩
    · cases c'
  · have hs : Lg.sent s num size now asks = s := if_neg c
    have hE := sentE_one hl9 c
    have no : ∀ (e : Ending) (w' : World), (e = .returned (.int .i64 1) ∧ w' = w) → e = .returned (.int .i64 (Lg.sentE s num size now)) ∧ ∃ v', RdOk w' g v' (Lg.sent s num size now asks) ∧ KeepL g v w w' ∧ Stay v v' w := by
      rintro e w' ⟨rfl, rfl⟩
      rw [hE, hs]
      exact ⟨rfl, v, h, KeepP.refl _ _, fun k hk => .inl hk⟩
    have hno : ¬ (num ≤ 4611686018427387903 ∧ (s.any = true → s.last < num) ∧ 1 ≤ size ∧ size ≤ 1200 ∧ Lg.timeOk s now) := fun q => c (by unfold Lg.sentE; rw [if_pos q, if_pos hl9])
    by_cases h0 : num ≤ 4611686018427387903
    · by_cases h1 : (s.any = true → s.last < num)
      · by_cases h2 : 1 ≤ size
        · by_cases h3 : size ≤ 1200
          · by_cases h4 : now ≤ 1099511627775
            · have h5 : now < s.now := by
                rcases Nat.lt_or_ge now s.now with q | q
                · exact q
                · exact absurd ⟨h0, h1, h2, h3, h4, q⟩ hno
              exact (refSent_no5 g v s num size now asks w h h0 h1 h2 h3 h4 h5).mono no
            · exact (refSent_no4 g v s num size now asks w h h0 h1 h2 h3 (by omega)).mono no
          · exact (refSent_no3 g v s num size now asks w h h0 h1 h2 (by omega)).mono no
        · exact (refSent_no2 g v s num size now asks w h h0 h1 (by omega)).mono no
      · have h1' : s.any = true ∧ num ≤ s.last := by
          cases hany : s.any
          · exact absurd (fun q => by rw [hany] at q; cases q) h1
          · refine ⟨rfl, ?_⟩
            rcases Nat.lt_or_ge s.last num with q | q
            · exact absurd (fun _ => q) h1
            · exact q
        exact (refSent_no1 g v s num size now asks w h h0 h1').mono no
    · exact (refSent_no0 g v s num size now asks w h (by omega)).mono no
end Go.Proofs.YtohoieleakieeaaGreatDoor
