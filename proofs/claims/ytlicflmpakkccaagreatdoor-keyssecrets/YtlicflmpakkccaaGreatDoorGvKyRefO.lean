/-
  What the document's Secret, Of and Next answer; what keys.Secret answers.
-/
import Derived.Test.YtlicflmpakkccaaGreatDoorGvKyRefS
import Derived.Test.YtlicflmpakkccaaGreatDoorGv6
namespace Go.Proofs.YtlicflmpakkccaaGreatDoor
open Go Go.RowKit

theorem ok_ne {w : World} {g : Nat} {t : TypeId} (s : SL) (h : s.Ok w) (hr : Row w g t (keysC (.slice none 0 0) (.slice none 0 0) (.slice none 0 0))) (hl : 0 < s.len) : s.g ≠ g := by
  intro e
  have c := h.cell 0 hl
  rw [e, Nat.add_zero, hr.cell s.off] at c
  match hs : s.off with
  | 0 => rw [hs] at c; simp at c
  | 1 => rw [hs] at c; simp at c
  | 2 => rw [hs] at c; simp at c
  | n + 3 => rw [hs] at c; simp at c
theorem sl_setCell {w : World} {s : SL} (h : s.Ok w) (g k : Nat) (hg : s.g ≠ g) (u : Value) : s.Ok (w.setCell ⟨g, k, none⟩ u) :=
  h.same (fun _ => Below.heap_setCell _ _ _ _ hg) (by simp)

set_option maxRecDepth 20000 in
set_option maxHeartbeats 1000000 in
theorem refExt_sl (k b : SL) (w : World) (hk : k.Ok w) (hb : b.Ok w) (h1 : k.len ≤ 1048576) (h2 : b.len ≤ 1048512) :
    Calls Tryz.prog 31 #[.slice k.a k.len k.cap, .slice b.a b.len b.cap] w fun e w' => e = .returned (.tuple #[.agg (bs (macK (keyL k.b) b.b)), .int .i64 0]) ∧ Below w.heap.size w w' := by
  have HK := veil hk
  have HB := veil hb
  clear hk hb
  have b0 : Below w.heap.size w (w.alloc (.cells (bs z32) 60)) := (Below.refl _ w).alloc (Nat.le_refl _) _
  have q0 : Row (w.alloc (.cells (bs z32) 60)) w.heap.size 60 (bs z32) := Row.new _ _ _
  have hsz : (bs (macK (keyL k.b) b.b)).size = 32 := by rw [bs_size, macK_length]
  go_enter Tryz.func31, Tryz.ntmps31
  go_wp2_with (with_reducible (show wpList _ _ _ (⟨_, Op.alloc 60, _, _, _, _⟩ :: _) _ _)
               refine alloc_row rfl 60 rfl (bs z32) (by kernel_rfl) ?_)
  refine (refMac_sl k b _ (HK.out.below b0) (HB.out.below b0) h1 h2).mono ?_
  rintro e1 w1 ⟨rfl, hb1⟩
  have q1 := q0.below hb1 q0.lt
  have b1 := b0.trans (hb1.mono b0.size)
  clear hb1 q0 b0
  go_wp2_with (with_reducible (show wpList _ _ _ (⟨_, Op.store 60 _ _, _, _, _, _⟩ :: _) _ _)
               refine store_row rfl 60 _ _ rfl w.heap.size (bs (macK (keyL k.b) b.b)) rfl rfl _ _ q1 32 (by kernel_rfl) (by rfl) hsz (bs_one _) ?_)
  refine bodyPost_ret (result_row_tmp rfl _ _ w.heap.size _ _ (q1.put _) 32 5 (.int .i64 0) rfl rfl Tryz.underlying60 (by kernel_rfl) hsz) rfl ⟨rfl, bSetRow b1 (Nat.le_refl _) _⟩

set_option maxRecDepth 20000 in
set_option maxHeartbeats 1000000 in
theorem refNext_any (q : SL) (w : World) (hq : q.Ok w) (hl : q.len = 32) :
    Calls Tryz.prog 17 #[.slice q.a q.len q.cap] w fun e w' => ∃ z : SL, e = .returned (.tuple #[.slice z.a z.len z.cap, .int .i64 0]) ∧ z.Ok w' ∧ z.b = lab q.b kuT 32 ∧ Below w.heap.size w w' := by
  have HQ := veil hq
  have hne : ((q.len : Int) != 32) = false := by rw [hl]; rfl
  have HL := veil hl
  clear hq hl
  go_enter Tryz.func17, Tryz.ntmps17
  go_wp2_with fail
  refine (refLab_any q kuT 32 w HQ.out (by decide) (by decide) (by have := HL.out; omega)).mono ?_
  rintro e1 w1 ⟨z, rfl, hz, hzb, hb1⟩
  have HZ := veil hz
  have HZB := veil hzb
  have HB := veil hb1
  clear hz hzb hb1
  go_wp2_with fail
  go_ret2
  exact ⟨z, rfl, HZ.out, HZB.out, HB.out⟩
set_option maxRecDepth 20000 in
set_option maxHeartbeats 1000000 in
theorem refNext_bad (q : SL) (w : World) (hl : q.len ≠ 32) :
    Calls Tryz.prog 17 #[.slice q.a q.len q.cap] w fun e w' => e = .returned (.tuple #[.slice none 0 0, .int .i64 1]) ∧ w' = w := by
  have hne : ((q.len : Int) != 32) = true := by simp; omega
  clear hl
  go_enter Tryz.func17, Tryz.ntmps17
  go_wp2_with fail
  go_ret2
  exact ⟨rfl, rfl⟩

set_option maxRecDepth 20000 in
set_option maxHeartbeats 1000000 in
theorem refOf_any (q : SL) (w : World) (hq : q.Ok w) (hl : q.len = 32) :
    Calls Tryz.prog 16 #[.slice q.a q.len q.cap] w fun e w' => ∃ x y z : SL, e = .returned (.tuple #[.agg (keysC (.slice x.a x.len x.cap) (.slice y.a y.len y.cap) (.slice z.a z.len z.cap)), .int .i64 0]) ∧ x.Ok w' ∧ y.Ok w' ∧ z.Ok w' ∧ x.b = lab q.b keyT 32 ∧ y.b = lab q.b ivT 12 ∧ z.b = lab q.b hpT 32 ∧ Below w.heap.size w w' := by
  have hne : ((q.len : Int) != 32) = false := by rw [hl]; rfl
  obtain ⟨W1, hW1⟩ : ∃ W, W = (w.alloc (.cells (keysC (.slice none 0 0) (.slice none 0 0) (.slice none 0 0)) 46)) := ⟨_, rfl⟩
  have b1 : Below w.heap.size w W1 := by rw [hW1]; exact (Below.refl _ w).alloc (Nat.le_refl _) _
  have r1 : Row W1 w.heap.size 46 (keysC (.slice none 0 0) (.slice none 0 0) (.slice none 0 0)) := by rw [hW1]; exact Row.new _ _ _
  have HQ := veil (hq.below b1)
  have HL := veil hl
  clear hq hl
  go_enter Tryz.func16, Tryz.ntmps16
  go_wp2_with fail
  show Calls _ _ _ (w.alloc (.cells (keysC (.slice none 0 0) (.slice none 0 0) (.slice none 0 0)) 46)) _
  rw [← hW1]
  clear hW1
  have HB1 := veil b1
  have HR1 := veil r1
  clear b1 r1
  refine (refLab_any q keyT 32 W1 HQ.out (by decide) (by decide) (by have := HL.out; omega)).mono ?_
  rintro e2 w2 ⟨x, rfl, hx, hxb, hb2⟩
  have HX := veil hx
  have HXB := veil hxb
  have HQ2 := veil (HQ.out.below hb2)
  have HR2 := veil (HR1.out.below hb2 HR1.out.lt)
  have HB2 := veil (HB1.out.trans (hb2.mono HB1.out.size))
  clear hx hxb hb2 HQ HR1 HB1
  go_wp2_with fail
  refine (refLab_any q ivT 12 w2 HQ2.out (by decide) (by decide) (by have := HL.out; omega)).mono ?_
  rintro e3 w3 ⟨y, rfl, hy, hyb, hb3⟩
  have HY := veil hy
  have HYB := veil hyb
  have HX3 := veil (HX.out.below hb3)
  have HQ3 := veil (HQ2.out.below hb3)
  have HR3 := veil (HR2.out.below hb3 HR2.out.lt)
  have HB3 := veil (HB2.out.trans (hb3.mono HB2.out.size))
  clear hy hyb hb3 HQ2 HR2 HB2 HX
  go_wp2_with fail
  refine (refLab_any q hpT 32 w3 HQ3.out (by decide) (by decide) (by have := HL.out; omega)).mono ?_
  rintro e4 w4 ⟨z, rfl, hz, hzb, hb4⟩
  have HX4 := veil (HX3.out.below hb4)
  have HY4 := veil (HY.out.below hb4)
  have HZ := veil hz
  have HZB := veil hzb
  have HR4 := veil (HR3.out.below hb4 HR3.out.lt)
  have HB4 := veil (HB3.out.trans (hb4.mono HB3.out.size))
  clear hz hzb hb4 HQ3 HR3 HB3 HX3 HY
  have d0 : w4.cell? ⟨w.heap.size, 0, none⟩ = some (.slice none 0 0) := HR4.out.cell 0
  have d1 : w4.cell? ⟨w.heap.size, 1, none⟩ = some (.slice none 0 0) := HR4.out.cell 1
  have d2 : w4.cell? ⟨w.heap.size, 2, none⟩ = some (.slice none 0 0) := HR4.out.cell 2
  have f0 := HR4.out.frozen 0
  have f1 := HR4.out.frozen 1
  have f2 := HR4.out.frozen 2
  go_wp2_with fail
  refine bodyPost_ret (result_keys rfl _ _ w.heap.size _ _ (((HR4.out.set 0 (.slice x.a x.len x.cap)).set 1 (.slice y.a y.len y.cap)).set 2 (.slice z.a z.len z.cap)) 3 _ (.int .i64 0) rfl rfl Tryz.underlying46 (by kernel_rfl) rfl) rfl ?_
  have hp : ∀ s : SL, s.Ok w4 → 0 < s.b.length → s.Ok (((w4.setCell ⟨w.heap.size, 0, none⟩ (.slice x.a x.len x.cap)).setCell ⟨w.heap.size, 1, none⟩ (.slice y.a y.len y.cap)).setCell ⟨w.heap.size, 2, none⟩ (.slice z.a z.len z.cap)) := fun s hs hl => by
    have hn := ok_ne s hs HR4.out (by rw [← hs.hb]; exact hl)
    exact sl_setCell (sl_setCell (sl_setCell hs _ 0 hn _) _ 1 hn _) _ 2 hn _
  exact ⟨x, y, z, rfl, hp x HX4.out (by rw [HXB.out, lab_length]; decide), hp y HY4.out (by rw [HYB.out, lab_length]; decide), hp z HZ.out (by rw [HZB.out, lab_length]; decide), HXB.out, HYB.out, HZB.out, ((HB4.out.setCell (p := ⟨w.heap.size, 0, none⟩) (Nat.le_refl _) _).setCell (p := ⟨w.heap.size, 1, none⟩) (Nat.le_refl _) _).setCell (p := ⟨w.heap.size, 2, none⟩) (Nat.le_refl _) _⟩
set_option maxRecDepth 20000 in
set_option maxHeartbeats 1000000 in
theorem refOf_bad (q : SL) (w : World) (hl : q.len ≠ 32) :
    Calls Tryz.prog 16 #[.slice q.a q.len q.cap] w fun e w' => e = .returned (.tuple #[.agg (keysC (.slice none 0 0) (.slice none 0 0) (.slice none 0 0)), .int .i64 1]) ∧ Below w.heap.size w w' := by
  have hne : ((q.len : Int) != 32) = true := by simp; omega
  clear hl
  have b1 : Below w.heap.size w (w.alloc (.cells (keysC (.slice none 0 0) (.slice none 0 0) (.slice none 0 0)) 46)) := (Below.refl _ w).alloc (Nat.le_refl _) _
  have r1 : Row (w.alloc (.cells (keysC (.slice none 0 0) (.slice none 0 0) (.slice none 0 0)) 46)) w.heap.size 46 (keysC (.slice none 0 0) (.slice none 0 0) (.slice none 0 0)) := Row.new _ _ _
  have HB := veil b1
  have HR := veil r1
  clear b1 r1
  go_enter Tryz.func16, Tryz.ntmps16
  go_wp2_with fail
  refine bodyPost_ret (result_keys rfl _ _ w.heap.size _ _ HR.out 3 _ (.int .i64 1) rfl rfl Tryz.underlying46 (by kernel_rfl) rfl) rfl ⟨rfl, HB.out⟩

set_option maxRecDepth 20000 in
set_option maxHeartbeats 2000000 in
theorem direction_any (client : Bool) (w : World) : Calls Tryz.prog 29 #[.bool client] w fun e w' => e = .returned (.string (dirT client)) ∧ w' = w := by
  cases client
  · go_enter Tryz.func29, Tryz.ntmps29
    go_wp2
    go_ret
    exact ⟨rfl, rfl⟩
  · go_enter Tryz.func29, Tryz.ntmps29
    go_wp2
    go_ret
    exact ⟨rfl, rfl⟩
theorem dirT_size (client : Bool) : (dirT client).size ≤ 249 := by cases client <;> decide

set_option maxRecDepth 20000 in
set_option maxHeartbeats 2000000 in
theorem secret_any (s t : SL) (client : Bool) (w : World) (hs : s.Ok w) (ht : t.Ok w) (h1 : 1 ≤ s.len) (h2 : s.len ≤ 256) (h3 : t.len ≤ 1048576) :
    Calls Tryz.prog 8 #[.slice s.a s.len s.cap, .slice t.a t.len t.cap, .bool client] w fun e w' => ∃ g, e = .returned (.tuple #[own1 g 32, .int .i64 0]) ∧ w'.ownsRow w.heap.size 5 1 (own1 g 32) 32 (vb (secretL s.b t.b client)) ∧ Below w.heap.size w w' := by
  have e1 : decide ((s.len : Int) < 1) = false := decide_eq_false (by omega)
  have e2 : decide ((256 : Int) < (s.len : Int)) = false := decide_eq_false (by omega)
  have HS := veil hs
  have HT := veil ht
  have H2 := veil h2
  have H3 := veil h3
  have hz1 : (bs (sumL t.b)).size = 32 := by rw [bs_size, sumL_length]
  obtain ⟨M, hM⟩ : ∃ M, macK (keyL (sumL t.b)) s.b = M := ⟨_, rfl⟩
  have hml : M.length = 32 := by rw [← hM]; exact macK_length _ _
  have hz2 : (bs M).size = 32 := by rw [bs_size, hml]
  have HM := veil hM
  have HML := veil hml
  clear hs ht h1 h2 h3 hM hml
  go_enter Tryz.func8, Tryz.ntmps8
  go_wp2_with fail
  refine (sum_sl t w HT.out H3.out).mono ?_
  rintro e1 w1 ⟨rfl, hb1⟩
  have B1 := veil hb1
  have S1 := veil (HS.out.below hb1)
  clear hb1 HT HS
  go_wp2_with (first
    | (with_reducible (show wpList _ _ _ (⟨_, Op.alloc 60, _, _, _, _⟩ :: _) _ _)
       refine alloc_row rfl 60 rfl (bs z32) (by kernel_rfl) ?_)
    | (with_reducible (show wpList _ _ _ (⟨_, Op.store 60 _ _, _, _, _, _⟩ :: _) _ _)
       refine store_new (w := w1) (by rfl) 60 _ _ (by rfl) w1.heap.size (bs (sumL t.b)) (by rfl) (by rfl) 60 (bs z32) (by rfl) 32 (by kernel_rfl) (by rfl) hz1 (bs_one _) ?_))
  have r2 : Row (w1.alloc (.cells (bs (sumL t.b)) 60)) w1.heap.size 60 (bs (sumL t.b)) := Row.new _ _ _
  have K2 := veil (rowN_ok (n := 32) r2 (sumL_length _))
  have B2 := veil (B1.out.alloc B1.out.size (.cells (bs (sumL t.b)) 60))
  have S2 := veil (S1.out.alloc (.cells (bs (sumL t.b)) 60))
  clear r2 B1 S1
  generalize w1.alloc (.cells (bs (sumL t.b)) 60) = W2 at *
  refine (ext_sl (rowN w1.heap.size 32 (sumL t.b)) s W2 K2.out S2.out (by show 32 ≤ 1048576; omega) (by have := H2.out; omega)).mono ?_
  rintro e3 w3 ⟨rfl, hb3⟩
  rw [show macK (keyL (rowN w1.heap.size 32 (sumL t.b)).b) s.b = M from HM.out]
  have B3 := veil (B2.out.trans (hb3.mono B2.out.size))
  clear hb3 B2 S2 K2
  go_wp2_with (first
    | (with_reducible (show wpList _ _ _ (⟨_, Op.alloc 60, _, _, _, _⟩ :: _) _ _)
       refine alloc_row rfl 60 rfl (bs z32) (by kernel_rfl) ?_)
    | (with_reducible (show wpList _ _ _ (⟨_, Op.store 60 _ _, _, _, _, _⟩ :: _) _ _)
       refine store_new (w := w3) (by rfl) 60 _ _ (by rfl) w3.heap.size (bs M) (by rfl) (by rfl) 60 (bs z32) (by rfl) 32 (by kernel_rfl) (by rfl) hz2 (bs_one _) ?_))
  have r4 : Row (w3.alloc (.cells (bs M) 60)) w3.heap.size 60 (bs M) := Row.new _ _ _
  have K4 := veil (rowN_ok (n := 32) r4 HML.out)
  have B4 := veil (B3.out.alloc B3.out.size (.cells (bs M) 60))
  clear r4 B3
  generalize w3.alloc (.cells (bs M) 60) = W4 at *
  go_region_held3 (fun _ => True) (trivial) (first
    | (go_at_call 29; refine (direction_any client _).mono ?_; rintro e5 w5 ⟨rfl, hw5⟩; obtain rfl := hw5.symm)
    | (go_at_call 28; refine (lab_any (rowN w3.heap.size 32 M) (dirT client) 32 _ (K4.out.below ((Below.refl _ W4).drew)) (dirT_size client) (by decide) (by show 32 ≤ 1048576; omega)).mono ?_; rintro e6 w6 ⟨g6, rfl, ho6, hb6⟩))
  have hs4 := B4.out.size
  have o6 : w6.ownsRow w.heap.size 5 1 (own1 g6 32) 32 (vb (secretL s.b t.b client)) := by
    have := own_low ho6 (show w.heap.size ≤ W4.drew.heap.size from hs4)
    unfold secretL
    rw [HM.out]
    exact this
  have b6 : Below w.heap.size w w6 := B4.out.drew.trans (hb6.mono hs4)
  have O6 := veil o6
  have B6 := veil b6
  clear o6 b6 ho6 hb6 hs4
  go_wp2_with fail
  go_ret2
  exact ⟨g6, rfl, O6.out, B6.out⟩

set_option maxRecDepth 20000 in
set_option maxHeartbeats 1000000 in
theorem secret_arg (s t : SL) (client : Bool) (w : World) (h : s.len < 1 ∨ 256 < s.len) :
    Calls Tryz.prog 8 #[.slice s.a s.len s.cap, .slice t.a t.len t.cap, .bool client] w fun e w' => e = .returned (.tuple #[.slice none 0 0, .int .i64 1]) ∧ w' = w := by
  by_cases hl : s.len < 1
  · have e1 : decide ((s.len : Int) < 1) = true := decide_eq_true (by omega)
    clear hl h
    go_enter Tryz.func8, Tryz.ntmps8
    go_wp2_with fail
    go_ret2
    exact ⟨rfl, rfl⟩
  · have e1 : decide ((s.len : Int) < 1) = false := decide_eq_false (by omega)
    have e2 : decide ((256 : Int) < (s.len : Int)) = true := decide_eq_true (by omega)
    clear hl h
    go_enter Tryz.func8, Tryz.ntmps8
    go_wp2_with fail
    go_ret2
    exact ⟨rfl, rfl⟩
set_option maxRecDepth 20000 in
set_option maxHeartbeats 1000000 in
theorem refSecret_arg (s t : SL) (client : Bool) (w : World) (h : s.len < 1 ∨ 256 < s.len) :
    Calls Tryz.prog 9 #[.slice s.a s.len s.cap, .slice t.a t.len t.cap, .bool client] w fun e w' => e = .returned (.tuple #[.slice none 0 0, .int .i64 1]) ∧ w' = w := by
  by_cases hl : s.len < 1
  · have e1 : decide ((s.len : Int) < 1) = true := decide_eq_true (by omega)
    clear hl h
    go_enter Tryz.func9, Tryz.ntmps9
    go_wp2_with fail
    go_ret2
    exact ⟨rfl, rfl⟩
  · have e1 : decide ((s.len : Int) < 1) = false := decide_eq_false (by omega)
    have e2 : decide ((256 : Int) < (s.len : Int)) = true := decide_eq_true (by omega)
    clear hl h
    go_enter Tryz.func9, Tryz.ntmps9
    go_wp2_with fail
    go_ret2
    exact ⟨rfl, rfl⟩
set_option maxRecDepth 20000 in
set_option maxHeartbeats 1000000 in
theorem secret_big (s t : SL) (client : Bool) (w : World) (h1 : 1 ≤ s.len) (h2 : s.len ≤ 256) (h3 : 1048576 < t.len) :
    Calls Tryz.prog 8 #[.slice s.a s.len s.cap, .slice t.a t.len t.cap, .bool client] w fun e w' => e = .returned (.tuple #[.slice none 0 0, .int .i64 3]) ∧ Below w.heap.size w w' := by
  have e1 : decide ((s.len : Int) < 1) = false := decide_eq_false (by omega)
  have e2 : decide ((256 : Int) < (s.len : Int)) = false := decide_eq_false (by omega)
  have H3 := veil h3
  clear h1 h2 h3
  go_enter Tryz.func8, Tryz.ntmps8
  go_wp2_with fail
  refine (sum_limit t.a t.len t.cap w H3.out).mono ?_
  rintro e1 w1 ⟨rfl, hb1⟩
  have B1 := veil hb1
  have hz1 : (bs z32).size = 32 := rfl
  have B2 := veil (B1.out.alloc B1.out.size (.cells (bs z32) 60))
  clear hb1
  go_wp2_with (first
    | (with_reducible (show wpList _ _ _ (⟨_, Op.alloc 60, _, _, _, _⟩ :: _) _ _)
       refine alloc_row rfl 60 rfl (bs z32) (by kernel_rfl) ?_)
    | (with_reducible (show wpList _ _ _ (⟨_, Op.store 60 _ _, _, _, _, _⟩ :: _) _ _)
       refine store_new (w := w1) (by rfl) 60 _ _ (by rfl) w1.heap.size (bs z32) (by rfl) (by rfl) 60 (bs z32) (by rfl) 32 (by kernel_rfl) (by rfl) hz1 (bs_one _) ?_))
  go_ret2
  exact ⟨rfl, B2.out⟩
set_option maxRecDepth 20000 in
set_option maxHeartbeats 1000000 in
theorem refSecret_big (s t : SL) (client : Bool) (w : World) (h1 : 1 ≤ s.len) (h2 : s.len ≤ 256) (h3 : 1048576 < t.len) :
    Calls Tryz.prog 9 #[.slice s.a s.len s.cap, .slice t.a t.len t.cap, .bool client] w fun e w' => e = .returned (.tuple #[.slice none 0 0, .int .i64 3]) ∧ w' = w := by
  have e1 : decide ((s.len : Int) < 1) = false := decide_eq_false (by omega)
  have e2 : decide ((256 : Int) < (s.len : Int)) = false := decide_eq_false (by omega)
  have e3 : decide ((1048576 : Int) < (t.len : Int)) = true := decide_eq_true (by omega)
  clear h1 h2 h3
  go_enter Tryz.func9, Tryz.ntmps9
  go_wp2_with fail
  go_ret2
  exact ⟨rfl, rfl⟩

set_option maxRecDepth 20000 in
set_option maxHeartbeats 2000000 in
theorem refSecret_any (s t : SL) (client : Bool) (w : World) (hs : s.Ok w) (ht : t.Ok w) (h1 : 1 ≤ s.len) (h2 : s.len ≤ 256) (h3 : t.len ≤ 1048576) :
    Calls Tryz.prog 9 #[.slice s.a s.len s.cap, .slice t.a t.len t.cap, .bool client] w fun e w' => ∃ z : SL, e = .returned (.tuple #[.slice z.a z.len z.cap, .int .i64 0]) ∧ z.Ok w' ∧ z.b = secretL s.b t.b client ∧ Below w.heap.size w w' := by
  have e1 : decide ((s.len : Int) < 1) = false := decide_eq_false (by omega)
  have e2 : decide ((256 : Int) < (s.len : Int)) = false := decide_eq_false (by omega)
  have e3 : decide ((1048576 : Int) < (t.len : Int)) = false := decide_eq_false (by omega)
  have HS := veil hs
  have HT := veil ht
  have H2 := veil h2
  have H3 := veil h3
  have hz1 : (bs (sumL t.b)).size = 32 := by rw [bs_size, sumL_length]
  obtain ⟨M, hM⟩ : ∃ M, macK (keyL (sumL t.b)) s.b = M := ⟨_, rfl⟩
  have hml : M.length = 32 := by rw [← hM]; exact macK_length _ _
  have hz2 : (bs M).size = 32 := by rw [bs_size, hml]
  have HM := veil hM
  have HML := veil hml
  clear hs ht h1 h2 h3 hM hml
  go_enter Tryz.func9, Tryz.ntmps9
  go_wp2_with fail
  refine (refSum_sl t w HT.out H3.out).mono ?_
  rintro e1 w1 ⟨rfl, hb1⟩
  have B1 := veil hb1
  have S1 := veil (HS.out.below hb1)
  clear hb1 HT HS
  go_wp2_with (first
    | (with_reducible (show wpList _ _ _ (⟨_, Op.alloc 60, _, _, _, _⟩ :: _) _ _)
       refine alloc_row rfl 60 rfl (bs z32) (by kernel_rfl) ?_)
    | (with_reducible (show wpList _ _ _ (⟨_, Op.store 60 _ _, _, _, _, _⟩ :: _) _ _)
       refine store_new (w := w1) (by rfl) 60 _ _ (by rfl) w1.heap.size (bs (sumL t.b)) (by rfl) (by rfl) 60 (bs z32) (by rfl) 32 (by kernel_rfl) (by rfl) hz1 (bs_one _) ?_))
  have r2 : Row (w1.alloc (.cells (bs (sumL t.b)) 60)) w1.heap.size 60 (bs (sumL t.b)) := Row.new _ _ _
  have K2 := veil (rowN_ok (n := 32) r2 (sumL_length _))
  have B2 := veil (B1.out.alloc B1.out.size (.cells (bs (sumL t.b)) 60))
  have S2 := veil (S1.out.alloc (.cells (bs (sumL t.b)) 60))
  clear r2 B1 S1
  generalize w1.alloc (.cells (bs (sumL t.b)) 60) = W2 at *
  refine (refExt_sl (rowN w1.heap.size 32 (sumL t.b)) s W2 K2.out S2.out (by show 32 ≤ 1048576; omega) (by have := H2.out; omega)).mono ?_
  rintro e3 w3 ⟨rfl, hb3⟩
  rw [show macK (keyL (rowN w1.heap.size 32 (sumL t.b)).b) s.b = M from HM.out]
  have B3 := veil (B2.out.trans (hb3.mono B2.out.size))
  have r4 : Row (w3.alloc (.cells (bs M) 60)) w3.heap.size 60 (bs M) := Row.new _ _ _
  have K4 := veil (rowN_ok (n := 32) r4 HML.out)
  have B4 := veil (B3.out.alloc B3.out.size (.cells (bs M) 60))
  clear hb3 B2 S2 K2 r4 B3
  cases client
  · go_wp2_with (first
      | (with_reducible (show wpList _ _ _ (⟨_, Op.alloc 60, _, _, _, _⟩ :: _) _ _)
         refine alloc_row rfl 60 rfl (bs z32) (by kernel_rfl) ?_)
      | (with_reducible (show wpList _ _ _ (⟨_, Op.store 60 _ _, _, _, _, _⟩ :: _) _ _)
         refine store_new (w := w3) (by rfl) 60 _ _ (by rfl) w3.heap.size (bs M) (by rfl) (by rfl) 60 (bs z32) (by rfl) 32 (by kernel_rfl) (by rfl) hz2 (bs_one _) ?_))
    refine (refLab_any (rowN w3.heap.size 32 M) serT 32 _ K4.out (by decide) (by decide) (by show 32 ≤ 1048576; omega)).mono ?_
    rintro e5 w5 ⟨z, rfl, hz, hzb, hb5⟩
    have HZ := veil hz
    have HZB := veil (show z.b = secretL s.b t.b false by unfold secretL; rw [HM.out]; exact hzb)
    have B5 := veil (B4.out.trans (hb5.mono B4.out.size))
    clear hz hzb hb5 K4 B4
    go_wp2_with fail
    go_ret2
    exact ⟨z, rfl, HZ.out, HZB.out, B5.out⟩
  · go_wp2_with (first
      | (with_reducible (show wpList _ _ _ (⟨_, Op.alloc 60, _, _, _, _⟩ :: _) _ _)
         refine alloc_row rfl 60 rfl (bs z32) (by kernel_rfl) ?_)
      | (with_reducible (show wpList _ _ _ (⟨_, Op.store 60 _ _, _, _, _, _⟩ :: _) _ _)
         refine store_new (w := w3) (by rfl) 60 _ _ (by rfl) w3.heap.size (bs M) (by rfl) (by rfl) 60 (bs z32) (by rfl) 32 (by kernel_rfl) (by rfl) hz2 (bs_one _) ?_))
    refine (refLab_any (rowN w3.heap.size 32 M) cliT 32 _ K4.out (by decide) (by decide) (by show 32 ≤ 1048576; omega)).mono ?_
    rintro e5 w5 ⟨z, rfl, hz, hzb, hb5⟩
    have HZ := veil hz
    have HZB := veil (show z.b = secretL s.b t.b true by unfold secretL; rw [HM.out]; exact hzb)
    have B5 := veil (B4.out.trans (hb5.mono B4.out.size))
    clear hz hzb hb5 K4 B4
    go_wp2_with fail
    go_ret2
    exact ⟨z, rfl, HZ.out, HZB.out, B5.out⟩
end Go.Proofs.YtlicflmpakkccaaGreatDoor
