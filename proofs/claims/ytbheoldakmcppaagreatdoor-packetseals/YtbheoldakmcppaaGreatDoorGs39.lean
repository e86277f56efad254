/-
  Out of PkRefM, PkRefH.
-/
import Derived.Test.YtbheoldakmcppaaGreatDoorGs22

/-! What the document's may, keys and head answer. -/
namespace Go.Proofs.YtbheoldakmcppaaGreatDoor
open Go Go.RowKit

set_option maxRecDepth 20000 in
set_option maxHeartbeats 2000000 in
theorem refMay_any (h : HD) (w : World) (hk : h.Ok w) :
    Calls Tryz.prog 26 #[.agg h.cells] w fun e w' => e = .returned (.bool (mayP h.ph)) ∧ Below w.heap.size w w' := by
  have e1 := hk.tu.hb
  have e2 := hk.fr.hb
  unfold mayP HD.ph
  simp only
  rw [e1, e2]
  clear e1 e2 hk
  obtain ⟨l, ⟨ta, tl, tc, _, _, _⟩, ⟨fa, fl, fc, _, _, _⟩, num, ph⟩ := h
  simp only
  have B1 := veil ((Below.refl w.heap.size w).alloc (Nat.le_refl _) (.cells (headC l (.slice ta tl tc) (.slice fa fl fc) num ph) 25))
  have r : Row (w.alloc (.cells (headC l (.slice ta tl tc) (.slice fa fl fc) num ph) 25)) w.heap.size 25 (headC l (.slice ta tl tc) (.slice fa fl fc) num ph) := Row.new _ _ _
  have c0 := r.cell 0
  have c1 := r.cell 1
  have c2 := r.cell 2
  have c3 := r.cell 3
  have c4 := r.cell 4
  clear r
  unfold HD.cells
  simp only
  by_cases h1 : tl ≤ 20
  · by_cases h2 : fl ≤ 20
    · by_cases h3 : num ≤ 4611686018427387903
      · rw [decide_eq_true h1, decide_eq_true h2, decide_eq_true h3]
        cases l
        · by_cases h4 : fl = 0
          · rw [decide_eq_true h4]
            subst h4
            go_enter Tryz.func26, Tryz.ntmps26
            go_wp2_with fail
            go_ret
            exact ⟨rfl, B1.out⟩
          · rw [decide_eq_false h4]
            have h5 : ((fl : Int) == 0) = false := by simp; omega
            go_enter Tryz.func26, Tryz.ntmps26
            go_wp2_with fail
            go_ret
            exact ⟨rfl, B1.out⟩
        · cases ph
          all_goals
            go_enter Tryz.func26, Tryz.ntmps26
            go_wp2_with fail
            go_ret
            exact ⟨rfl, B1.out⟩
      · rw [decide_eq_false h3, Bool.and_false, Bool.false_and]
        go_enter Tryz.func26, Tryz.ntmps26
        go_wp2_with fail
        go_ret
        exact ⟨rfl, B1.out⟩
    · rw [decide_eq_false h2, Bool.and_false, Bool.false_and, Bool.false_and]
      go_enter Tryz.func26, Tryz.ntmps26
      go_wp2_with fail
      go_ret
      exact ⟨rfl, B1.out⟩
  · rw [decide_eq_false h1, Bool.false_and, Bool.false_and, Bool.false_and]
    go_enter Tryz.func26, Tryz.ntmps26
    go_wp2_with fail
    go_ret
    exact ⟨rfl, B1.out⟩

set_option maxRecDepth 20000 in
set_option maxHeartbeats 2000000 in
theorem refKeys_any (k : KS) (w : World) (hk : k.Ok w) :
    Calls Tryz.prog 27 #[.agg k.cells] w fun e w' => e = .returned (.bool (keysP k.key.b k.iv.b k.mask.b)) ∧ Below w.heap.size w w' := by
  have e1 := hk.key.hb
  have e2 := hk.iv.hb
  have e3 := hk.mask.hb
  unfold keysP
  rw [e1, e2, e3]
  clear e1 e2 e3 hk
  obtain ⟨⟨ka, kl, kc, _, _, _⟩, ⟨va, vl, vc, _, _, _⟩, ⟨ma, ml, mc, _, _, _⟩⟩ := k
  simp only
  have B1 := veil ((Below.refl w.heap.size w).alloc (Nat.le_refl _) (.cells (keysC (.slice ka kl kc) (.slice va vl vc) (.slice ma ml mc)) 27))
  have r : Row (w.alloc (.cells (keysC (.slice ka kl kc) (.slice va vl vc) (.slice ma ml mc)) 27)) w.heap.size 27 (keysC (.slice ka kl kc) (.slice va vl vc) (.slice ma ml mc)) := Row.new _ _ _
  have c0 := r.cell 0
  have c1 := r.cell 1
  have c2 := r.cell 2
  clear r
  unfold KS.cells
  simp only
  by_cases h1 : kl = 32
  · subst h1
    by_cases h2 : vl = 12
    · subst h2
      by_cases h3 : ml = 32
      · subst h3
        go_enter Tryz.func27, Tryz.ntmps27
        go_wp2_with fail
        go_ret
        exact ⟨rfl, B1.out⟩
      · rw [decide_eq_false h3, Bool.and_false]
        have h5 : ((ml : Int) == 32) = false := by simp; omega
        go_enter Tryz.func27, Tryz.ntmps27
        go_wp2_with fail
        go_ret
        exact ⟨rfl, B1.out⟩
    · rw [decide_eq_false h2, Bool.and_false, Bool.false_and]
      have h5 : ((vl : Int) == 12) = false := by simp; omega
      go_enter Tryz.func27, Tryz.ntmps27
      go_wp2_with fail
      go_ret
      exact ⟨rfl, B1.out⟩
  · rw [decide_eq_false h1, Bool.false_and, Bool.false_and]
    have h5 : ((kl : Int) == 32) = false := by simp; omega
    go_enter Tryz.func27, Tryz.ntmps27
    go_wp2_with fail
    go_ret
    exact ⟨rfl, B1.out⟩
end Go.Proofs.YtbheoldakmcppaaGreatDoor

/-! What the document's head answers. Written by mkhead13.py. -/
namespace Go.Proofs.YtbheoldakmcppaaGreatDoor
open Go Go.RowKit

theorem two_b (R : Nat) (h : R / 256 < 64) : v8 (64#8 ||| BitVec.ofNat 8 (R / 256)) = 64 + (R : Int) / 256 := by
  have key : ∀ k : Fin 64, v8 (64#8 ||| BitVec.ofNat 8 k.val) = 64 + (k.val : Int) := by decide +kernel
  have := key ⟨R / 256, h⟩
  simp only at this
  rw [this]
  omega

set_option maxRecDepth 20000 in
set_option maxHeartbeats 1000000 in
theorem refHead_s1n (h : HD) (R : Nat) (w : World) (hk : h.Ok w) (ht : h.tu.len ≤ 20) (hl : h.long = false) (hp : h.phase = false) :
    Calls Tryz.prog 28 #[.agg h.cells, .int .i64 1, .int .i64 (R : Int)] w fun e w' => ∃ v, e = .returned v ∧ w'.ownsRow w.heap.size 5 1 v (preL h.ph 1 R).length (vb (preL h.ph 1 R)) ∧ Below w.heap.size w w' := by
  obtain ⟨i0, hi, hz0, hz1, hz2⟩ := info_parts (P := Tryz.prog) (e := 5) (z := .int .u8 0) (size := 1) (bytes := 1) (by kernel_rfl)
  have b0 := (Below.refl w.heap.size w).alloc (Nat.le_refl _) (.cells h.cells 25)
  have r : Row (w.alloc (.cells h.cells 25)) w.heap.size 25 h.cells := Row.new _ _ _
  have c0 := HD.c0 r
  have c4 := HD.c4 r
  rw [hl] at c0
  rw [hp] at c4
  have B0 := veil b0
  have K0 := veil (hk.below b0)
  have R0 := veil r
  have HPR : Hid (preL h.ph 1 R = [firstB false false 1] ++ h.tu.b) := by
    unfold preL HD.ph
    simp only
    rw [hl, hp]
    rfl
  have HTB := veil hk.tu.hb
  clear hk b0 r hl hp
  have e0 : (w.alloc (.cells h.cells 25)).heap.size = w.heap.size + 1 := by simp
  have DB : Hid (∀ W, Below (w.heap.size + 1) (w.alloc (.cells h.cells 25)) W → Below (w.alloc (.cells h.cells 25)).heap.size (w.alloc (.cells h.cells 25)) W) := fun W hW => by rw [e0]; exact hW
  have O2 : Hid (((w.alloc (.cells h.cells 25)).alloc (.cells #[.int .u8 (v8 (firstB false false 1))] 5)).ownsRow (w.alloc (.cells h.cells 25)).heap.size 5 1 (.slice (some ⟨(w.alloc (.cells h.cells 25)).heap.size, 0, none⟩) 1 1) 1 (vb [firstB false false 1])) := own_litB (w.alloc (.cells h.cells 25)) [firstB false false 1] (by unfold maxLen; simp)
  have D2 := veil ((Below.refl (w.alloc (.cells h.cells 25)).heap.size (w.alloc (.cells h.cells 25))).alloc (Nat.le_refl _) (.cells #[.int .u8 (v8 (firstB false false 1))] 5))
  have c1 := HD.c1 (R0.out.below D2.out R0.out.lt)
  rw [show v8 (firstB false false 1) = 64 from rfl] at O2 D2 c1
  rw [e0] at O2 D2
  have ZC : Hid (∀ n, (w.alloc (.cells h.cells 25)).heap.size ≤ n → w.heap.size + 1 ≤ n) := fun n hn => by rw [e0] at hn; exact hn
  have Z2 := veil (ZC.out _ D2.out.size)
  clear e0
  go_enter Tryz.func28, Tryz.ntmps28
  go_wp2_with (first
    | (with_reducible (show wpList _ _ _ (⟨some 24, Op.call _, _, _, _, _⟩ :: _) _ _)
       refine append_sl rfl _ _ 22 rfl (w.heap.size + 1) i0 Tryz.underlying22 hi hz0 hz1 hz2 _ 1 _ rfl O2.out h.tu (K0.out.below (DB.out _ D2.out)).tu rfl (by omega) Z2.out ?_
       intro y3 w3 own3 grow3
       have D3 := veil (D2.out.grown grow3 Z2.out (fun q e => (O2.out.lt q e).1))
       have O3 := veil own3
       clear own3 grow3 O2 D2 Z2 c0 c1 c4))
  go_ret
  refine ⟨_, rfl, ?_, B0.out.trans ((DB.out _ D3.out).mono B0.out.size)⟩
  have hlen : (preL h.ph 1 R).length = 1 + h.tu.len := by
    rw [HPR.out, List.length_append, HTB.out]
    rfl
  rw [hlen, HPR.out]
  exact own_low O3.out (Nat.le_succ _)

set_option maxRecDepth 20000 in
set_option maxHeartbeats 1000000 in
theorem refHead_s1p (h : HD) (R : Nat) (w : World) (hk : h.Ok w) (ht : h.tu.len ≤ 20) (hl : h.long = false) (hp : h.phase = true) :
    Calls Tryz.prog 28 #[.agg h.cells, .int .i64 1, .int .i64 (R : Int)] w fun e w' => ∃ v, e = .returned v ∧ w'.ownsRow w.heap.size 5 1 v (preL h.ph 1 R).length (vb (preL h.ph 1 R)) ∧ Below w.heap.size w w' := by
  obtain ⟨i0, hi, hz0, hz1, hz2⟩ := info_parts (P := Tryz.prog) (e := 5) (z := .int .u8 0) (size := 1) (bytes := 1) (by kernel_rfl)
  have b0 := (Below.refl w.heap.size w).alloc (Nat.le_refl _) (.cells h.cells 25)
  have r : Row (w.alloc (.cells h.cells 25)) w.heap.size 25 h.cells := Row.new _ _ _
  have c0 := HD.c0 r
  have c4 := HD.c4 r
  rw [hl] at c0
  rw [hp] at c4
  have B0 := veil b0
  have K0 := veil (hk.below b0)
  have R0 := veil r
  have HPR : Hid (preL h.ph 1 R = [firstB false true 1] ++ h.tu.b) := by
    unfold preL HD.ph
    simp only
    rw [hl, hp]
    rfl
  have HTB := veil hk.tu.hb
  clear hk b0 r hl hp
  have e0 : (w.alloc (.cells h.cells 25)).heap.size = w.heap.size + 1 := by simp
  have DB : Hid (∀ W, Below (w.heap.size + 1) (w.alloc (.cells h.cells 25)) W → Below (w.alloc (.cells h.cells 25)).heap.size (w.alloc (.cells h.cells 25)) W) := fun W hW => by rw [e0]; exact hW
  have O2 : Hid (((w.alloc (.cells h.cells 25)).alloc (.cells #[.int .u8 (v8 (firstB false true 1))] 5)).ownsRow (w.alloc (.cells h.cells 25)).heap.size 5 1 (.slice (some ⟨(w.alloc (.cells h.cells 25)).heap.size, 0, none⟩) 1 1) 1 (vb [firstB false true 1])) := own_litB (w.alloc (.cells h.cells 25)) [firstB false true 1] (by unfold maxLen; simp)
  have D2 := veil ((Below.refl (w.alloc (.cells h.cells 25)).heap.size (w.alloc (.cells h.cells 25))).alloc (Nat.le_refl _) (.cells #[.int .u8 (v8 (firstB false true 1))] 5))
  have c1 := HD.c1 (R0.out.below D2.out R0.out.lt)
  rw [show v8 (firstB false true 1) = 68 from rfl] at O2 D2 c1
  rw [e0] at O2 D2
  have ZC : Hid (∀ n, (w.alloc (.cells h.cells 25)).heap.size ≤ n → w.heap.size + 1 ≤ n) := fun n hn => by rw [e0] at hn; exact hn
  have Z2 := veil (ZC.out _ D2.out.size)
  clear e0
  go_enter Tryz.func28, Tryz.ntmps28
  go_wp2_with (first
    | (with_reducible (show wpList _ _ _ (⟨some 24, Op.call _, _, _, _, _⟩ :: _) _ _)
       refine append_sl rfl _ _ 22 rfl (w.heap.size + 1) i0 Tryz.underlying22 hi hz0 hz1 hz2 _ 1 _ rfl O2.out h.tu (K0.out.below (DB.out _ D2.out)).tu rfl (by omega) Z2.out ?_
       intro y3 w3 own3 grow3
       have D3 := veil (D2.out.grown grow3 Z2.out (fun q e => (O2.out.lt q e).1))
       have O3 := veil own3
       clear own3 grow3 O2 D2 Z2 c0 c1 c4))
  go_ret
  refine ⟨_, rfl, ?_, B0.out.trans ((DB.out _ D3.out).mono B0.out.size)⟩
  have hlen : (preL h.ph 1 R).length = 1 + h.tu.len := by
    rw [HPR.out, List.length_append, HTB.out]
    rfl
  rw [hlen, HPR.out]
  exact own_low O3.out (Nat.le_succ _)

set_option maxRecDepth 20000 in
set_option maxHeartbeats 1000000 in
theorem refHead_s2n (h : HD) (R : Nat) (w : World) (hk : h.Ok w) (ht : h.tu.len ≤ 20) (hl : h.long = false) (hp : h.phase = false) :
    Calls Tryz.prog 28 #[.agg h.cells, .int .i64 2, .int .i64 (R : Int)] w fun e w' => ∃ v, e = .returned v ∧ w'.ownsRow w.heap.size 5 1 v (preL h.ph 2 R).length (vb (preL h.ph 2 R)) ∧ Below w.heap.size w w' := by
  obtain ⟨i0, hi, hz0, hz1, hz2⟩ := info_parts (P := Tryz.prog) (e := 5) (z := .int .u8 0) (size := 1) (bytes := 1) (by kernel_rfl)
  have b0 := (Below.refl w.heap.size w).alloc (Nat.le_refl _) (.cells h.cells 25)
  have r : Row (w.alloc (.cells h.cells 25)) w.heap.size 25 h.cells := Row.new _ _ _
  have c0 := HD.c0 r
  have c4 := HD.c4 r
  rw [hl] at c0
  rw [hp] at c4
  have B0 := veil b0
  have K0 := veil (hk.below b0)
  have R0 := veil r
  have HPR : Hid (preL h.ph 2 R = [firstB false false 2] ++ h.tu.b) := by
    unfold preL HD.ph
    simp only
    rw [hl, hp]
    rfl
  have HTB := veil hk.tu.hb
  clear hk b0 r hl hp
  have e0 : (w.alloc (.cells h.cells 25)).heap.size = w.heap.size + 1 := by simp
  have DB : Hid (∀ W, Below (w.heap.size + 1) (w.alloc (.cells h.cells 25)) W → Below (w.alloc (.cells h.cells 25)).heap.size (w.alloc (.cells h.cells 25)) W) := fun W hW => by rw [e0]; exact hW
  have O2 : Hid (((w.alloc (.cells h.cells 25)).alloc (.cells #[.int .u8 (v8 (firstB false false 2))] 5)).ownsRow (w.alloc (.cells h.cells 25)).heap.size 5 1 (.slice (some ⟨(w.alloc (.cells h.cells 25)).heap.size, 0, none⟩) 1 1) 1 (vb [firstB false false 2])) := own_litB (w.alloc (.cells h.cells 25)) [firstB false false 2] (by unfold maxLen; simp)
  have D2 := veil ((Below.refl (w.alloc (.cells h.cells 25)).heap.size (w.alloc (.cells h.cells 25))).alloc (Nat.le_refl _) (.cells #[.int .u8 (v8 (firstB false false 2))] 5))
  have c1 := HD.c1 (R0.out.below D2.out R0.out.lt)
  rw [show v8 (firstB false false 2) = 65 from rfl] at O2 D2 c1
  rw [e0] at O2 D2
  have ZC : Hid (∀ n, (w.alloc (.cells h.cells 25)).heap.size ≤ n → w.heap.size + 1 ≤ n) := fun n hn => by rw [e0] at hn; exact hn
  have Z2 := veil (ZC.out _ D2.out.size)
  clear e0
  go_enter Tryz.func28, Tryz.ntmps28
  go_wp2_with (first
    | (with_reducible (show wpList _ _ _ (⟨some 24, Op.call _, _, _, _, _⟩ :: _) _ _)
       refine append_sl rfl _ _ 22 rfl (w.heap.size + 1) i0 Tryz.underlying22 hi hz0 hz1 hz2 _ 1 _ rfl O2.out h.tu (K0.out.below (DB.out _ D2.out)).tu rfl (by omega) Z2.out ?_
       intro y3 w3 own3 grow3
       have D3 := veil (D2.out.grown grow3 Z2.out (fun q e => (O2.out.lt q e).1))
       have O3 := veil own3
       clear own3 grow3 O2 D2 Z2 c0 c1 c4))
  go_ret
  refine ⟨_, rfl, ?_, B0.out.trans ((DB.out _ D3.out).mono B0.out.size)⟩
  have hlen : (preL h.ph 2 R).length = 1 + h.tu.len := by
    rw [HPR.out, List.length_append, HTB.out]
    rfl
  rw [hlen, HPR.out]
  exact own_low O3.out (Nat.le_succ _)

set_option maxRecDepth 20000 in
set_option maxHeartbeats 1000000 in
theorem refHead_s2p (h : HD) (R : Nat) (w : World) (hk : h.Ok w) (ht : h.tu.len ≤ 20) (hl : h.long = false) (hp : h.phase = true) :
    Calls Tryz.prog 28 #[.agg h.cells, .int .i64 2, .int .i64 (R : Int)] w fun e w' => ∃ v, e = .returned v ∧ w'.ownsRow w.heap.size 5 1 v (preL h.ph 2 R).length (vb (preL h.ph 2 R)) ∧ Below w.heap.size w w' := by
  obtain ⟨i0, hi, hz0, hz1, hz2⟩ := info_parts (P := Tryz.prog) (e := 5) (z := .int .u8 0) (size := 1) (bytes := 1) (by kernel_rfl)
  have b0 := (Below.refl w.heap.size w).alloc (Nat.le_refl _) (.cells h.cells 25)
  have r : Row (w.alloc (.cells h.cells 25)) w.heap.size 25 h.cells := Row.new _ _ _
  have c0 := HD.c0 r
  have c4 := HD.c4 r
  rw [hl] at c0
  rw [hp] at c4
  have B0 := veil b0
  have K0 := veil (hk.below b0)
  have R0 := veil r
  have HPR : Hid (preL h.ph 2 R = [firstB false true 2] ++ h.tu.b) := by
    unfold preL HD.ph
    simp only
    rw [hl, hp]
    rfl
  have HTB := veil hk.tu.hb
  clear hk b0 r hl hp
  have e0 : (w.alloc (.cells h.cells 25)).heap.size = w.heap.size + 1 := by simp
  have DB : Hid (∀ W, Below (w.heap.size + 1) (w.alloc (.cells h.cells 25)) W → Below (w.alloc (.cells h.cells 25)).heap.size (w.alloc (.cells h.cells 25)) W) := fun W hW => by rw [e0]; exact hW
  have O2 : Hid (((w.alloc (.cells h.cells 25)).alloc (.cells #[.int .u8 (v8 (firstB false true 2))] 5)).ownsRow (w.alloc (.cells h.cells 25)).heap.size 5 1 (.slice (some ⟨(w.alloc (.cells h.cells 25)).heap.size, 0, none⟩) 1 1) 1 (vb [firstB false true 2])) := own_litB (w.alloc (.cells h.cells 25)) [firstB false true 2] (by unfold maxLen; simp)
  have D2 := veil ((Below.refl (w.alloc (.cells h.cells 25)).heap.size (w.alloc (.cells h.cells 25))).alloc (Nat.le_refl _) (.cells #[.int .u8 (v8 (firstB false true 2))] 5))
  have c1 := HD.c1 (R0.out.below D2.out R0.out.lt)
  rw [show v8 (firstB false true 2) = 69 from rfl] at O2 D2 c1
  rw [e0] at O2 D2
  have ZC : Hid (∀ n, (w.alloc (.cells h.cells 25)).heap.size ≤ n → w.heap.size + 1 ≤ n) := fun n hn => by rw [e0] at hn; exact hn
  have Z2 := veil (ZC.out _ D2.out.size)
  clear e0
  go_enter Tryz.func28, Tryz.ntmps28
  go_wp2_with (first
    | (with_reducible (show wpList _ _ _ (⟨some 24, Op.call _, _, _, _, _⟩ :: _) _ _)
       refine append_sl rfl _ _ 22 rfl (w.heap.size + 1) i0 Tryz.underlying22 hi hz0 hz1 hz2 _ 1 _ rfl O2.out h.tu (K0.out.below (DB.out _ D2.out)).tu rfl (by omega) Z2.out ?_
       intro y3 w3 own3 grow3
       have D3 := veil (D2.out.grown grow3 Z2.out (fun q e => (O2.out.lt q e).1))
       have O3 := veil own3
       clear own3 grow3 O2 D2 Z2 c0 c1 c4))
  go_ret
  refine ⟨_, rfl, ?_, B0.out.trans ((DB.out _ D3.out).mono B0.out.size)⟩
  have hlen : (preL h.ph 2 R).length = 1 + h.tu.len := by
    rw [HPR.out, List.length_append, HTB.out]
    rfl
  rw [hlen, HPR.out]
  exact own_low O3.out (Nat.le_succ _)

set_option maxRecDepth 20000 in
set_option maxHeartbeats 1000000 in
theorem refHead_s3n (h : HD) (R : Nat) (w : World) (hk : h.Ok w) (ht : h.tu.len ≤ 20) (hl : h.long = false) (hp : h.phase = false) :
    Calls Tryz.prog 28 #[.agg h.cells, .int .i64 3, .int .i64 (R : Int)] w fun e w' => ∃ v, e = .returned v ∧ w'.ownsRow w.heap.size 5 1 v (preL h.ph 3 R).length (vb (preL h.ph 3 R)) ∧ Below w.heap.size w w' := by
  obtain ⟨i0, hi, hz0, hz1, hz2⟩ := info_parts (P := Tryz.prog) (e := 5) (z := .int .u8 0) (size := 1) (bytes := 1) (by kernel_rfl)
  have b0 := (Below.refl w.heap.size w).alloc (Nat.le_refl _) (.cells h.cells 25)
  have r : Row (w.alloc (.cells h.cells 25)) w.heap.size 25 h.cells := Row.new _ _ _
  have c0 := HD.c0 r
  have c4 := HD.c4 r
  rw [hl] at c0
  rw [hp] at c4
  have B0 := veil b0
  have K0 := veil (hk.below b0)
  have R0 := veil r
  have HPR : Hid (preL h.ph 3 R = [firstB false false 3] ++ h.tu.b) := by
    unfold preL HD.ph
    simp only
    rw [hl, hp]
    rfl
  have HTB := veil hk.tu.hb
  clear hk b0 r hl hp
  have e0 : (w.alloc (.cells h.cells 25)).heap.size = w.heap.size + 1 := by simp
  have DB : Hid (∀ W, Below (w.heap.size + 1) (w.alloc (.cells h.cells 25)) W → Below (w.alloc (.cells h.cells 25)).heap.size (w.alloc (.cells h.cells 25)) W) := fun W hW => by rw [e0]; exact hW
  have O2 : Hid (((w.alloc (.cells h.cells 25)).alloc (.cells #[.int .u8 (v8 (firstB false false 3))] 5)).ownsRow (w.alloc (.cells h.cells 25)).heap.size 5 1 (.slice (some ⟨(w.alloc (.cells h.cells 25)).heap.size, 0, none⟩) 1 1) 1 (vb [firstB false false 3])) := own_litB (w.alloc (.cells h.cells 25)) [firstB false false 3] (by unfold maxLen; simp)
  have D2 := veil ((Below.refl (w.alloc (.cells h.cells 25)).heap.size (w.alloc (.cells h.cells 25))).alloc (Nat.le_refl _) (.cells #[.int .u8 (v8 (firstB false false 3))] 5))
  have c1 := HD.c1 (R0.out.below D2.out R0.out.lt)
  rw [show v8 (firstB false false 3) = 66 from rfl] at O2 D2 c1
  rw [e0] at O2 D2
  have ZC : Hid (∀ n, (w.alloc (.cells h.cells 25)).heap.size ≤ n → w.heap.size + 1 ≤ n) := fun n hn => by rw [e0] at hn; exact hn
  have Z2 := veil (ZC.out _ D2.out.size)
  clear e0
  go_enter Tryz.func28, Tryz.ntmps28
  go_wp2_with (first
    | (with_reducible (show wpList _ _ _ (⟨some 24, Op.call _, _, _, _, _⟩ :: _) _ _)
       refine append_sl rfl _ _ 22 rfl (w.heap.size + 1) i0 Tryz.underlying22 hi hz0 hz1 hz2 _ 1 _ rfl O2.out h.tu (K0.out.below (DB.out _ D2.out)).tu rfl (by omega) Z2.out ?_
       intro y3 w3 own3 grow3
       have D3 := veil (D2.out.grown grow3 Z2.out (fun q e => (O2.out.lt q e).1))
       have O3 := veil own3
       clear own3 grow3 O2 D2 Z2 c0 c1 c4))
  go_ret
  refine ⟨_, rfl, ?_, B0.out.trans ((DB.out _ D3.out).mono B0.out.size)⟩
  have hlen : (preL h.ph 3 R).length = 1 + h.tu.len := by
    rw [HPR.out, List.length_append, HTB.out]
    rfl
  rw [hlen, HPR.out]
  exact own_low O3.out (Nat.le_succ _)

set_option maxRecDepth 20000 in
set_option maxHeartbeats 1000000 in
theorem refHead_s3p (h : HD) (R : Nat) (w : World) (hk : h.Ok w) (ht : h.tu.len ≤ 20) (hl : h.long = false) (hp : h.phase = true) :
    Calls Tryz.prog 28 #[.agg h.cells, .int .i64 3, .int .i64 (R : Int)] w fun e w' => ∃ v, e = .returned v ∧ w'.ownsRow w.heap.size 5 1 v (preL h.ph 3 R).length (vb (preL h.ph 3 R)) ∧ Below w.heap.size w w' := by
  obtain ⟨i0, hi, hz0, hz1, hz2⟩ := info_parts (P := Tryz.prog) (e := 5) (z := .int .u8 0) (size := 1) (bytes := 1) (by kernel_rfl)
  have b0 := (Below.refl w.heap.size w).alloc (Nat.le_refl _) (.cells h.cells 25)
  have r : Row (w.alloc (.cells h.cells 25)) w.heap.size 25 h.cells := Row.new _ _ _
  have c0 := HD.c0 r
  have c4 := HD.c4 r
  rw [hl] at c0
  rw [hp] at c4
  have B0 := veil b0
  have K0 := veil (hk.below b0)
  have R0 := veil r
  have HPR : Hid (preL h.ph 3 R = [firstB false true 3] ++ h.tu.b) := by
    unfold preL HD.ph
    simp only
    rw [hl, hp]
    rfl
  have HTB := veil hk.tu.hb
  clear hk b0 r hl hp
  have e0 : (w.alloc (.cells h.cells 25)).heap.size = w.heap.size + 1 := by simp
  have DB : Hid (∀ W, Below (w.heap.size + 1) (w.alloc (.cells h.cells 25)) W → Below (w.alloc (.cells h.cells 25)).heap.size (w.alloc (.cells h.cells 25)) W) := fun W hW => by rw [e0]; exact hW
  have O2 : Hid (((w.alloc (.cells h.cells 25)).alloc (.cells #[.int .u8 (v8 (firstB false true 3))] 5)).ownsRow (w.alloc (.cells h.cells 25)).heap.size 5 1 (.slice (some ⟨(w.alloc (.cells h.cells 25)).heap.size, 0, none⟩) 1 1) 1 (vb [firstB false true 3])) := own_litB (w.alloc (.cells h.cells 25)) [firstB false true 3] (by unfold maxLen; simp)
  have D2 := veil ((Below.refl (w.alloc (.cells h.cells 25)).heap.size (w.alloc (.cells h.cells 25))).alloc (Nat.le_refl _) (.cells #[.int .u8 (v8 (firstB false true 3))] 5))
  have c1 := HD.c1 (R0.out.below D2.out R0.out.lt)
  rw [show v8 (firstB false true 3) = 70 from rfl] at O2 D2 c1
  rw [e0] at O2 D2
  have ZC : Hid (∀ n, (w.alloc (.cells h.cells 25)).heap.size ≤ n → w.heap.size + 1 ≤ n) := fun n hn => by rw [e0] at hn; exact hn
  have Z2 := veil (ZC.out _ D2.out.size)
  clear e0
  go_enter Tryz.func28, Tryz.ntmps28
  go_wp2_with (first
    | (with_reducible (show wpList _ _ _ (⟨some 24, Op.call _, _, _, _, _⟩ :: _) _ _)
       refine append_sl rfl _ _ 22 rfl (w.heap.size + 1) i0 Tryz.underlying22 hi hz0 hz1 hz2 _ 1 _ rfl O2.out h.tu (K0.out.below (DB.out _ D2.out)).tu rfl (by omega) Z2.out ?_
       intro y3 w3 own3 grow3
       have D3 := veil (D2.out.grown grow3 Z2.out (fun q e => (O2.out.lt q e).1))
       have O3 := veil own3
       clear own3 grow3 O2 D2 Z2 c0 c1 c4))
  go_ret
  refine ⟨_, rfl, ?_, B0.out.trans ((DB.out _ D3.out).mono B0.out.size)⟩
  have hlen : (preL h.ph 3 R).length = 1 + h.tu.len := by
    rw [HPR.out, List.length_append, HTB.out]
    rfl
  rw [hlen, HPR.out]
  exact own_low O3.out (Nat.le_succ _)

set_option maxRecDepth 20000 in
set_option maxHeartbeats 1000000 in
theorem refHead_s4n (h : HD) (R : Nat) (w : World) (hk : h.Ok w) (ht : h.tu.len ≤ 20) (hl : h.long = false) (hp : h.phase = false) :
    Calls Tryz.prog 28 #[.agg h.cells, .int .i64 4, .int .i64 (R : Int)] w fun e w' => ∃ v, e = .returned v ∧ w'.ownsRow w.heap.size 5 1 v (preL h.ph 4 R).length (vb (preL h.ph 4 R)) ∧ Below w.heap.size w w' := by
  obtain ⟨i0, hi, hz0, hz1, hz2⟩ := info_parts (P := Tryz.prog) (e := 5) (z := .int .u8 0) (size := 1) (bytes := 1) (by kernel_rfl)
  have b0 := (Below.refl w.heap.size w).alloc (Nat.le_refl _) (.cells h.cells 25)
  have r : Row (w.alloc (.cells h.cells 25)) w.heap.size 25 h.cells := Row.new _ _ _
  have c0 := HD.c0 r
  have c4 := HD.c4 r
  rw [hl] at c0
  rw [hp] at c4
  have B0 := veil b0
  have K0 := veil (hk.below b0)
  have R0 := veil r
  have HPR : Hid (preL h.ph 4 R = [firstB false false 4] ++ h.tu.b) := by
    unfold preL HD.ph
    simp only
    rw [hl, hp]
    rfl
  have HTB := veil hk.tu.hb
  clear hk b0 r hl hp
  have e0 : (w.alloc (.cells h.cells 25)).heap.size = w.heap.size + 1 := by simp
  have DB : Hid (∀ W, Below (w.heap.size + 1) (w.alloc (.cells h.cells 25)) W → Below (w.alloc (.cells h.cells 25)).heap.size (w.alloc (.cells h.cells 25)) W) := fun W hW => by rw [e0]; exact hW
  have O2 : Hid (((w.alloc (.cells h.cells 25)).alloc (.cells #[.int .u8 (v8 (firstB false false 4))] 5)).ownsRow (w.alloc (.cells h.cells 25)).heap.size 5 1 (.slice (some ⟨(w.alloc (.cells h.cells 25)).heap.size, 0, none⟩) 1 1) 1 (vb [firstB false false 4])) := own_litB (w.alloc (.cells h.cells 25)) [firstB false false 4] (by unfold maxLen; simp)
  have D2 := veil ((Below.refl (w.alloc (.cells h.cells 25)).heap.size (w.alloc (.cells h.cells 25))).alloc (Nat.le_refl _) (.cells #[.int .u8 (v8 (firstB false false 4))] 5))
  have c1 := HD.c1 (R0.out.below D2.out R0.out.lt)
  rw [show v8 (firstB false false 4) = 67 from rfl] at O2 D2 c1
  rw [e0] at O2 D2
  have ZC : Hid (∀ n, (w.alloc (.cells h.cells 25)).heap.size ≤ n → w.heap.size + 1 ≤ n) := fun n hn => by rw [e0] at hn; exact hn
  have Z2 := veil (ZC.out _ D2.out.size)
  clear e0
  go_enter Tryz.func28, Tryz.ntmps28
  go_wp2_with (first
    | (with_reducible (show wpList _ _ _ (⟨some 24, Op.call _, _, _, _, _⟩ :: _) _ _)
       refine append_sl rfl _ _ 22 rfl (w.heap.size + 1) i0 Tryz.underlying22 hi hz0 hz1 hz2 _ 1 _ rfl O2.out h.tu (K0.out.below (DB.out _ D2.out)).tu rfl (by omega) Z2.out ?_
       intro y3 w3 own3 grow3
       have D3 := veil (D2.out.grown grow3 Z2.out (fun q e => (O2.out.lt q e).1))
       have O3 := veil own3
       clear own3 grow3 O2 D2 Z2 c0 c1 c4))
  go_ret
  refine ⟨_, rfl, ?_, B0.out.trans ((DB.out _ D3.out).mono B0.out.size)⟩
  have hlen : (preL h.ph 4 R).length = 1 + h.tu.len := by
    rw [HPR.out, List.length_append, HTB.out]
    rfl
  rw [hlen, HPR.out]
  exact own_low O3.out (Nat.le_succ _)

set_option maxRecDepth 20000 in
set_option maxHeartbeats 1000000 in
theorem refHead_s4p (h : HD) (R : Nat) (w : World) (hk : h.Ok w) (ht : h.tu.len ≤ 20) (hl : h.long = false) (hp : h.phase = true) :
    Calls Tryz.prog 28 #[.agg h.cells, .int .i64 4, .int .i64 (R : Int)] w fun e w' => ∃ v, e = .returned v ∧ w'.ownsRow w.heap.size 5 1 v (preL h.ph 4 R).length (vb (preL h.ph 4 R)) ∧ Below w.heap.size w w' := by
  obtain ⟨i0, hi, hz0, hz1, hz2⟩ := info_parts (P := Tryz.prog) (e := 5) (z := .int .u8 0) (size := 1) (bytes := 1) (by kernel_rfl)
  have b0 := (Below.refl w.heap.size w).alloc (Nat.le_refl _) (.cells h.cells 25)
  have r : Row (w.alloc (.cells h.cells 25)) w.heap.size 25 h.cells := Row.new _ _ _
  have c0 := HD.c0 r
  have c4 := HD.c4 r
  rw [hl] at c0
  rw [hp] at c4
  have B0 := veil b0
  have K0 := veil (hk.below b0)
  have R0 := veil r
  have HPR : Hid (preL h.ph 4 R = [firstB false true 4] ++ h.tu.b) := by
    unfold preL HD.ph
    simp only
    rw [hl, hp]
    rfl
  have HTB := veil hk.tu.hb
  clear hk b0 r hl hp
  have e0 : (w.alloc (.cells h.cells 25)).heap.size = w.heap.size + 1 := by simp
  have DB : Hid (∀ W, Below (w.heap.size + 1) (w.alloc (.cells h.cells 25)) W → Below (w.alloc (.cells h.cells 25)).heap.size (w.alloc (.cells h.cells 25)) W) := fun W hW => by rw [e0]; exact hW
  have O2 : Hid (((w.alloc (.cells h.cells 25)).alloc (.cells #[.int .u8 (v8 (firstB false true 4))] 5)).ownsRow (w.alloc (.cells h.cells 25)).heap.size 5 1 (.slice (some ⟨(w.alloc (.cells h.cells 25)).heap.size, 0, none⟩) 1 1) 1 (vb [firstB false true 4])) := own_litB (w.alloc (.cells h.cells 25)) [firstB false true 4] (by unfold maxLen; simp)
  have D2 := veil ((Below.refl (w.alloc (.cells h.cells 25)).heap.size (w.alloc (.cells h.cells 25))).alloc (Nat.le_refl _) (.cells #[.int .u8 (v8 (firstB false true 4))] 5))
  have c1 := HD.c1 (R0.out.below D2.out R0.out.lt)
  rw [show v8 (firstB false true 4) = 71 from rfl] at O2 D2 c1
  rw [e0] at O2 D2
  have ZC : Hid (∀ n, (w.alloc (.cells h.cells 25)).heap.size ≤ n → w.heap.size + 1 ≤ n) := fun n hn => by rw [e0] at hn; exact hn
  have Z2 := veil (ZC.out _ D2.out.size)
  clear e0
  go_enter Tryz.func28, Tryz.ntmps28
  go_wp2_with (first
    | (with_reducible (show wpList _ _ _ (⟨some 24, Op.call _, _, _, _, _⟩ :: _) _ _)
       refine append_sl rfl _ _ 22 rfl (w.heap.size + 1) i0 Tryz.underlying22 hi hz0 hz1 hz2 _ 1 _ rfl O2.out h.tu (K0.out.below (DB.out _ D2.out)).tu rfl (by omega) Z2.out ?_
       intro y3 w3 own3 grow3
       have D3 := veil (D2.out.grown grow3 Z2.out (fun q e => (O2.out.lt q e).1))
       have O3 := veil own3
       clear own3 grow3 O2 D2 Z2 c0 c1 c4))
  go_ret
  refine ⟨_, rfl, ?_, B0.out.trans ((DB.out _ D3.out).mono B0.out.size)⟩
  have hlen : (preL h.ph 4 R).length = 1 + h.tu.len := by
    rw [HPR.out, List.length_append, HTB.out]
    rfl
  rw [hlen, HPR.out]
  exact own_low O3.out (Nat.le_succ _)

set_option maxRecDepth 20000 in
set_option maxHeartbeats 1000000 in
theorem refHead_l1 (h : HD) (R : Nat) (w : World) (hk : h.Ok w) (ht : h.tu.len ≤ 20) (hf : h.fr.len ≤ 20) (hR : R / 256 < 64) (hl : h.long = true) (hp : h.phase = false) :
    Calls Tryz.prog 28 #[.agg h.cells, .int .i64 1, .int .i64 (R : Int)] w fun e w' => ∃ v, e = .returned v ∧ w'.ownsRow w.heap.size 5 1 v (preL h.ph 1 R).length (vb (preL h.ph 1 R)) ∧ Below w.heap.size w w' := by
  obtain ⟨i0, hi, hz0, hz1, hz2⟩ := info_parts (P := Tryz.prog) (e := 5) (z := .int .u8 0) (size := 1) (bytes := 1) (by kernel_rfl)
  have b0 := (Below.refl w.heap.size w).alloc (Nat.le_refl _) (.cells h.cells 25)
  have r : Row (w.alloc (.cells h.cells 25)) w.heap.size 25 h.cells := Row.new _ _ _
  have c0 := HD.c0 r
  have c1 := HD.c1 r
  rw [hl] at c0
  have B0 := veil b0
  have K0 := veil (hk.below b0)
  have R0 := veil r
  have TB := veil hk.tu.hb
  have FB := veil hk.fr.hb
  have HPR : Hid (preL h.ph 1 R = [firstB true false 1, 0, 0, 0, 1, BitVec.ofNat 8 h.tu.len] ++ h.tu.b ++ [BitVec.ofNat 8 h.fr.len] ++ h.fr.b ++ [0, 64#8 ||| BitVec.ofNat 8 (R / 256), BitVec.ofNat 8 R]) := by
    unfold preL HD.ph
    simp only
    rw [hl, hp, if_pos rfl, TB.out, FB.out]
    exact rfl
  have HV := veil (show (h.tu.len : Int) = v8 (BitVec.ofNat 8 h.tu.len) by rw [v8_len]; omega)
  have HW := veil (show (h.fr.len : Int) = v8 (BitVec.ofNat 8 h.fr.len) by rw [v8_len]; omega)
  have HE1 := veil (two_b R hR)
  have HE2 := veil (show (R : Int) % 256 = v8 (BitVec.ofNat 8 R) from (v8_len R).symm)
  clear hk b0 r hl hp
  have e0 : (w.alloc (.cells h.cells 25)).heap.size = w.heap.size + 1 := by simp
  have DB : Hid (∀ W, Below (w.heap.size + 1) (w.alloc (.cells h.cells 25)) W → Below (w.alloc (.cells h.cells 25)).heap.size (w.alloc (.cells h.cells 25)) W) := fun W hW => by rw [e0]; exact hW
  have O2 : Hid (((w.alloc (.cells h.cells 25)).alloc (.cells #[.int .u8 192, .int .u8 0, .int .u8 0, .int .u8 0, .int .u8 1, .int .u8 (h.tu.len : Int)] 5)).ownsRow (w.alloc (.cells h.cells 25)).heap.size 5 1 (.slice (some ⟨(w.alloc (.cells h.cells 25)).heap.size, 0, none⟩) 6 6) 6 (vb [firstB true false 1, 0, 0, 0, 1, BitVec.ofNat 8 h.tu.len])) := by
    rw [HV.out]
    exact own_litB (w.alloc (.cells h.cells 25)) [firstB true false 1, 0, 0, 0, 1, BitVec.ofNat 8 h.tu.len] (by unfold maxLen; simp)
  have D2 := veil ((Below.refl (w.alloc (.cells h.cells 25)).heap.size (w.alloc (.cells h.cells 25))).alloc (Nat.le_refl _) (.cells #[.int .u8 192, .int .u8 0, .int .u8 0, .int .u8 0, .int .u8 1, .int .u8 (h.tu.len : Int)] 5))
  have d1 := HD.c1 (R0.out.below D2.out R0.out.lt)
  rw [e0] at O2 D2
  have ZC : Hid (∀ n, (w.alloc (.cells h.cells 25)).heap.size ≤ n → w.heap.size + 1 ≤ n) := fun n hn => by rw [e0] at hn; exact hn
  have Z2 := veil (ZC.out _ D2.out.size)
  clear e0
  go_enter Tryz.func28, Tryz.ntmps28
  go_wp2_with (first
    | (with_reducible (show wpList _ _ _ (⟨some 36, Op.call _, _, _, _, _⟩ :: _) _ _)
       refine append_sl rfl _ _ 22 rfl (w.heap.size + 1) i0 Tryz.underlying22 hi hz0 hz1 hz2 _ 6 _ rfl O2.out h.tu (K0.out.below (DB.out _ D2.out)).tu rfl (by omega) Z2.out ?_
       intro y3 w3 own3 grow3
       have D3 := veil (D2.out.grown grow3 Z2.out (fun q e => (O2.out.lt q e).1))
       have O3 := veil own3
       clear own3 grow3 O2 D2 Z2 c0 c1 d1
       have Z3 := veil (ZC.out _ D3.out.size)
       have c2 := HD.c2 (R0.out.below (DB.out _ D3.out) R0.out.lt))
    | (with_reducible (show wpList _ _ _ (⟨some 43, Op.call _, _, _, _, _⟩ :: _) _ _)
       rw [HW.out]
       have D4 := veil (D3.out.alloc Z3.out (.cells #[.int .u8 (v8 (BitVec.ofNat 8 h.fr.len))] 5))
       have Z4 := veil (ZC.out _ D4.out.size)
       have O4 := veil (O3.out.alloc (.cells #[.int .u8 (v8 (BitVec.ofNat 8 h.fr.len))] 5))
       refine append_sl rfl _ _ 22 rfl (w.heap.size + 1) i0 Tryz.underlying22 hi hz0 hz1 hz2 _ (6 + h.tu.len) _ rfl O4.out (rowN w3.heap.size 1 [BitVec.ofNat 8 h.fr.len]) (rowN_ok (Row.new _ _ _) rfl) rfl (by show 6 + h.tu.len + 1 ≤ 8388608; omega) Z4.out ?_
       intro y5 w5 own5 grow5
       have D5 := veil (D4.out.grown grow5 Z4.out (fun q e => (O4.out.lt q e).1))
       have O5 := veil own5
       clear own5 grow5 O3 D3 Z3 O4 D4 Z4 c2
       have Z5 := veil (ZC.out _ D5.out.size)
       have c2 := HD.c2 (R0.out.below (DB.out _ D5.out) R0.out.lt))
    | (with_reducible (show wpList _ _ _ (⟨some 47, Op.call _, _, _, _, _⟩ :: _) _ _)
       refine append_sl rfl _ _ 22 rfl (w.heap.size + 1) i0 Tryz.underlying22 hi hz0 hz1 hz2 _ (6 + h.tu.len + 1) _ rfl O5.out h.fr (K0.out.below (DB.out _ D5.out)).fr rfl (by show 6 + h.tu.len + 1 + h.fr.len ≤ 8388608; omega) Z5.out ?_
       intro y6 w6 own6 grow6
       have D6 := veil (D5.out.grown grow6 Z5.out (fun q e => (O5.out.lt q e).1))
       have O6 := veil own6
       clear own6 grow6 O5 D5 Z5 c2
       have Z6 := veil (ZC.out _ D6.out.size))
    | (with_reducible (show wpList _ _ _ (⟨some 56, Op.call _, _, _, _, _⟩ :: _) _ _)
       rw [← HE1.out, HE2.out]
       have D7 := veil (D6.out.alloc Z6.out (.cells #[.int .u8 0, .int .u8 (v8 (64#8 ||| BitVec.ofNat 8 (R / 256))), .int .u8 (v8 (BitVec.ofNat 8 R))] 5))
       have Z7 := veil (ZC.out _ D7.out.size)
       have O7 := veil (O6.out.alloc (.cells #[.int .u8 0, .int .u8 (v8 (64#8 ||| BitVec.ofNat 8 (R / 256))), .int .u8 (v8 (BitVec.ofNat 8 R))] 5))
       refine append_sl rfl _ _ 22 rfl (w.heap.size + 1) i0 Tryz.underlying22 hi hz0 hz1 hz2 _ (6 + h.tu.len + 1 + h.fr.len) _ rfl O7.out (rowN w6.heap.size 3 [0, 64#8 ||| BitVec.ofNat 8 (R / 256), BitVec.ofNat 8 R]) (rowN_ok (Row.new _ _ _) rfl) rfl (by show 6 + h.tu.len + 1 + h.fr.len + 3 ≤ 8388608; omega) Z7.out ?_
       intro y8 w8 own8 grow8
       have D8 := veil (D7.out.grown grow8 Z7.out (fun q e => (O7.out.lt q e).1))
       have O8 := veil own8
       clear own8 grow8 O6 D6 Z6 O7 D7 Z7))
  go_ret
  refine ⟨_, rfl, ?_, B0.out.trans ((DB.out _ D8.out).mono B0.out.size)⟩
  have hlen : (preL h.ph 1 R).length = 6 + h.tu.len + 1 + h.fr.len + 3 := by
    rw [HPR.out]
    simp only [List.length_append, List.length_cons, List.length_nil, TB.out, FB.out]
  rw [hlen, HPR.out]
  exact own_low O8.out (Nat.le_succ _)

set_option maxRecDepth 20000 in
set_option maxHeartbeats 1000000 in
theorem refHead_l2 (h : HD) (R : Nat) (w : World) (hk : h.Ok w) (ht : h.tu.len ≤ 20) (hf : h.fr.len ≤ 20) (hR : R / 256 < 64) (hl : h.long = true) (hp : h.phase = false) :
    Calls Tryz.prog 28 #[.agg h.cells, .int .i64 2, .int .i64 (R : Int)] w fun e w' => ∃ v, e = .returned v ∧ w'.ownsRow w.heap.size 5 1 v (preL h.ph 2 R).length (vb (preL h.ph 2 R)) ∧ Below w.heap.size w w' := by
  obtain ⟨i0, hi, hz0, hz1, hz2⟩ := info_parts (P := Tryz.prog) (e := 5) (z := .int .u8 0) (size := 1) (bytes := 1) (by kernel_rfl)
  have b0 := (Below.refl w.heap.size w).alloc (Nat.le_refl _) (.cells h.cells 25)
  have r : Row (w.alloc (.cells h.cells 25)) w.heap.size 25 h.cells := Row.new _ _ _
  have c0 := HD.c0 r
  have c1 := HD.c1 r
  rw [hl] at c0
  have B0 := veil b0
  have K0 := veil (hk.below b0)
  have R0 := veil r
  have TB := veil hk.tu.hb
  have FB := veil hk.fr.hb
  have HPR : Hid (preL h.ph 2 R = [firstB true false 2, 0, 0, 0, 1, BitVec.ofNat 8 h.tu.len] ++ h.tu.b ++ [BitVec.ofNat 8 h.fr.len] ++ h.fr.b ++ [0, 64#8 ||| BitVec.ofNat 8 (R / 256), BitVec.ofNat 8 R]) := by
    unfold preL HD.ph
    simp only
    rw [hl, hp, if_pos rfl, TB.out, FB.out]
    exact rfl
  have HV := veil (show (h.tu.len : Int) = v8 (BitVec.ofNat 8 h.tu.len) by rw [v8_len]; omega)
  have HW := veil (show (h.fr.len : Int) = v8 (BitVec.ofNat 8 h.fr.len) by rw [v8_len]; omega)
  have HE1 := veil (two_b R hR)
  have HE2 := veil (show (R : Int) % 256 = v8 (BitVec.ofNat 8 R) from (v8_len R).symm)
  clear hk b0 r hl hp
  have e0 : (w.alloc (.cells h.cells 25)).heap.size = w.heap.size + 1 := by simp
  have DB : Hid (∀ W, Below (w.heap.size + 1) (w.alloc (.cells h.cells 25)) W → Below (w.alloc (.cells h.cells 25)).heap.size (w.alloc (.cells h.cells 25)) W) := fun W hW => by rw [e0]; exact hW
  have O2 : Hid (((w.alloc (.cells h.cells 25)).alloc (.cells #[.int .u8 193, .int .u8 0, .int .u8 0, .int .u8 0, .int .u8 1, .int .u8 (h.tu.len : Int)] 5)).ownsRow (w.alloc (.cells h.cells 25)).heap.size 5 1 (.slice (some ⟨(w.alloc (.cells h.cells 25)).heap.size, 0, none⟩) 6 6) 6 (vb [firstB true false 2, 0, 0, 0, 1, BitVec.ofNat 8 h.tu.len])) := by
    rw [HV.out]
    exact own_litB (w.alloc (.cells h.cells 25)) [firstB true false 2, 0, 0, 0, 1, BitVec.ofNat 8 h.tu.len] (by unfold maxLen; simp)
  have D2 := veil ((Below.refl (w.alloc (.cells h.cells 25)).heap.size (w.alloc (.cells h.cells 25))).alloc (Nat.le_refl _) (.cells #[.int .u8 193, .int .u8 0, .int .u8 0, .int .u8 0, .int .u8 1, .int .u8 (h.tu.len : Int)] 5))
  have d1 := HD.c1 (R0.out.below D2.out R0.out.lt)
  rw [e0] at O2 D2
  have ZC : Hid (∀ n, (w.alloc (.cells h.cells 25)).heap.size ≤ n → w.heap.size + 1 ≤ n) := fun n hn => by rw [e0] at hn; exact hn
  have Z2 := veil (ZC.out _ D2.out.size)
  clear e0
  go_enter Tryz.func28, Tryz.ntmps28
  go_wp2_with (first
    | (with_reducible (show wpList _ _ _ (⟨some 36, Op.call _, _, _, _, _⟩ :: _) _ _)
       refine append_sl rfl _ _ 22 rfl (w.heap.size + 1) i0 Tryz.underlying22 hi hz0 hz1 hz2 _ 6 _ rfl O2.out h.tu (K0.out.below (DB.out _ D2.out)).tu rfl (by omega) Z2.out ?_
       intro y3 w3 own3 grow3
       have D3 := veil (D2.out.grown grow3 Z2.out (fun q e => (O2.out.lt q e).1))
       have O3 := veil own3
       clear own3 grow3 O2 D2 Z2 c0 c1 d1
       have Z3 := veil (ZC.out _ D3.out.size)
       have c2 := HD.c2 (R0.out.below (DB.out _ D3.out) R0.out.lt))
    | (with_reducible (show wpList _ _ _ (⟨some 43, Op.call _, _, _, _, _⟩ :: _) _ _)
       rw [HW.out]
       have D4 := veil (D3.out.alloc Z3.out (.cells #[.int .u8 (v8 (BitVec.ofNat 8 h.fr.len))] 5))
       have Z4 := veil (ZC.out _ D4.out.size)
       have O4 := veil (O3.out.alloc (.cells #[.int .u8 (v8 (BitVec.ofNat 8 h.fr.len))] 5))
       refine append_sl rfl _ _ 22 rfl (w.heap.size + 1) i0 Tryz.underlying22 hi hz0 hz1 hz2 _ (6 + h.tu.len) _ rfl O4.out (rowN w3.heap.size 1 [BitVec.ofNat 8 h.fr.len]) (rowN_ok (Row.new _ _ _) rfl) rfl (by show 6 + h.tu.len + 1 ≤ 8388608; omega) Z4.out ?_
       intro y5 w5 own5 grow5
       have D5 := veil (D4.out.grown grow5 Z4.out (fun q e => (O4.out.lt q e).1))
       have O5 := veil own5
       clear own5 grow5 O3 D3 Z3 O4 D4 Z4 c2
       have Z5 := veil (ZC.out _ D5.out.size)
       have c2 := HD.c2 (R0.out.below (DB.out _ D5.out) R0.out.lt))
    | (with_reducible (show wpList _ _ _ (⟨some 47, Op.call _, _, _, _, _⟩ :: _) _ _)
       refine append_sl rfl _ _ 22 rfl (w.heap.size + 1) i0 Tryz.underlying22 hi hz0 hz1 hz2 _ (6 + h.tu.len + 1) _ rfl O5.out h.fr (K0.out.below (DB.out _ D5.out)).fr rfl (by show 6 + h.tu.len + 1 + h.fr.len ≤ 8388608; omega) Z5.out ?_
       intro y6 w6 own6 grow6
       have D6 := veil (D5.out.grown grow6 Z5.out (fun q e => (O5.out.lt q e).1))
       have O6 := veil own6
       clear own6 grow6 O5 D5 Z5 c2
       have Z6 := veil (ZC.out _ D6.out.size))
    | (with_reducible (show wpList _ _ _ (⟨some 56, Op.call _, _, _, _, _⟩ :: _) _ _)
       rw [← HE1.out, HE2.out]
       have D7 := veil (D6.out.alloc Z6.out (.cells #[.int .u8 0, .int .u8 (v8 (64#8 ||| BitVec.ofNat 8 (R / 256))), .int .u8 (v8 (BitVec.ofNat 8 R))] 5))
       have Z7 := veil (ZC.out _ D7.out.size)
       have O7 := veil (O6.out.alloc (.cells #[.int .u8 0, .int .u8 (v8 (64#8 ||| BitVec.ofNat 8 (R / 256))), .int .u8 (v8 (BitVec.ofNat 8 R))] 5))
       refine append_sl rfl _ _ 22 rfl (w.heap.size + 1) i0 Tryz.underlying22 hi hz0 hz1 hz2 _ (6 + h.tu.len + 1 + h.fr.len) _ rfl O7.out (rowN w6.heap.size 3 [0, 64#8 ||| BitVec.ofNat 8 (R / 256), BitVec.ofNat 8 R]) (rowN_ok (Row.new _ _ _) rfl) rfl (by show 6 + h.tu.len + 1 + h.fr.len + 3 ≤ 8388608; omega) Z7.out ?_
       intro y8 w8 own8 grow8
       have D8 := veil (D7.out.grown grow8 Z7.out (fun q e => (O7.out.lt q e).1))
       have O8 := veil own8
       clear own8 grow8 O6 D6 Z6 O7 D7 Z7))
  go_ret
  refine ⟨_, rfl, ?_, B0.out.trans ((DB.out _ D8.out).mono B0.out.size)⟩
  have hlen : (preL h.ph 2 R).length = 6 + h.tu.len + 1 + h.fr.len + 3 := by
    rw [HPR.out]
    simp only [List.length_append, List.length_cons, List.length_nil, TB.out, FB.out]
  rw [hlen, HPR.out]
  exact own_low O8.out (Nat.le_succ _)

set_option maxRecDepth 20000 in
set_option maxHeartbeats 1000000 in
theorem refHead_l3 (h : HD) (R : Nat) (w : World) (hk : h.Ok w) (ht : h.tu.len ≤ 20) (hf : h.fr.len ≤ 20) (hR : R / 256 < 64) (hl : h.long = true) (hp : h.phase = false) :
    Calls Tryz.prog 28 #[.agg h.cells, .int .i64 3, .int .i64 (R : Int)] w fun e w' => ∃ v, e = .returned v ∧ w'.ownsRow w.heap.size 5 1 v (preL h.ph 3 R).length (vb (preL h.ph 3 R)) ∧ Below w.heap.size w w' := by
  obtain ⟨i0, hi, hz0, hz1, hz2⟩ := info_parts (P := Tryz.prog) (e := 5) (z := .int .u8 0) (size := 1) (bytes := 1) (by kernel_rfl)
  have b0 := (Below.refl w.heap.size w).alloc (Nat.le_refl _) (.cells h.cells 25)
  have r : Row (w.alloc (.cells h.cells 25)) w.heap.size 25 h.cells := Row.new _ _ _
  have c0 := HD.c0 r
  have c1 := HD.c1 r
  rw [hl] at c0
  have B0 := veil b0
  have K0 := veil (hk.below b0)
  have R0 := veil r
  have TB := veil hk.tu.hb
  have FB := veil hk.fr.hb
  have HPR : Hid (preL h.ph 3 R = [firstB true false 3, 0, 0, 0, 1, BitVec.ofNat 8 h.tu.len] ++ h.tu.b ++ [BitVec.ofNat 8 h.fr.len] ++ h.fr.b ++ [0, 64#8 ||| BitVec.ofNat 8 (R / 256), BitVec.ofNat 8 R]) := by
    unfold preL HD.ph
    simp only
    rw [hl, hp, if_pos rfl, TB.out, FB.out]
    exact rfl
  have HV := veil (show (h.tu.len : Int) = v8 (BitVec.ofNat 8 h.tu.len) by rw [v8_len]; omega)
  have HW := veil (show (h.fr.len : Int) = v8 (BitVec.ofNat 8 h.fr.len) by rw [v8_len]; omega)
  have HE1 := veil (two_b R hR)
  have HE2 := veil (show (R : Int) % 256 = v8 (BitVec.ofNat 8 R) from (v8_len R).symm)
  clear hk b0 r hl hp
  have e0 : (w.alloc (.cells h.cells 25)).heap.size = w.heap.size + 1 := by simp
  have DB : Hid (∀ W, Below (w.heap.size + 1) (w.alloc (.cells h.cells 25)) W → Below (w.alloc (.cells h.cells 25)).heap.size (w.alloc (.cells h.cells 25)) W) := fun W hW => by rw [e0]; exact hW
  have O2 : Hid (((w.alloc (.cells h.cells 25)).alloc (.cells #[.int .u8 194, .int .u8 0, .int .u8 0, .int .u8 0, .int .u8 1, .int .u8 (h.tu.len : Int)] 5)).ownsRow (w.alloc (.cells h.cells 25)).heap.size 5 1 (.slice (some ⟨(w.alloc (.cells h.cells 25)).heap.size, 0, none⟩) 6 6) 6 (vb [firstB true false 3, 0, 0, 0, 1, BitVec.ofNat 8 h.tu.len])) := by
    rw [HV.out]
    exact own_litB (w.alloc (.cells h.cells 25)) [firstB true false 3, 0, 0, 0, 1, BitVec.ofNat 8 h.tu.len] (by unfold maxLen; simp)
  have D2 := veil ((Below.refl (w.alloc (.cells h.cells 25)).heap.size (w.alloc (.cells h.cells 25))).alloc (Nat.le_refl _) (.cells #[.int .u8 194, .int .u8 0, .int .u8 0, .int .u8 0, .int .u8 1, .int .u8 (h.tu.len : Int)] 5))
  have d1 := HD.c1 (R0.out.below D2.out R0.out.lt)
  rw [e0] at O2 D2
  have ZC : Hid (∀ n, (w.alloc (.cells h.cells 25)).heap.size ≤ n → w.heap.size + 1 ≤ n) := fun n hn => by rw [e0] at hn; exact hn
  have Z2 := veil (ZC.out _ D2.out.size)
  clear e0
  go_enter Tryz.func28, Tryz.ntmps28
  go_wp2_with (first
    | (with_reducible (show wpList _ _ _ (⟨some 36, Op.call _, _, _, _, _⟩ :: _) _ _)
       refine append_sl rfl _ _ 22 rfl (w.heap.size + 1) i0 Tryz.underlying22 hi hz0 hz1 hz2 _ 6 _ rfl O2.out h.tu (K0.out.below (DB.out _ D2.out)).tu rfl (by omega) Z2.out ?_
       intro y3 w3 own3 grow3
       have D3 := veil (D2.out.grown grow3 Z2.out (fun q e => (O2.out.lt q e).1))
       have O3 := veil own3
       clear own3 grow3 O2 D2 Z2 c0 c1 d1
       have Z3 := veil (ZC.out _ D3.out.size)
       have c2 := HD.c2 (R0.out.below (DB.out _ D3.out) R0.out.lt))
    | (with_reducible (show wpList _ _ _ (⟨some 43, Op.call _, _, _, _, _⟩ :: _) _ _)
       rw [HW.out]
       have D4 := veil (D3.out.alloc Z3.out (.cells #[.int .u8 (v8 (BitVec.ofNat 8 h.fr.len))] 5))
       have Z4 := veil (ZC.out _ D4.out.size)
       have O4 := veil (O3.out.alloc (.cells #[.int .u8 (v8 (BitVec.ofNat 8 h.fr.len))] 5))
       refine append_sl rfl _ _ 22 rfl (w.heap.size + 1) i0 Tryz.underlying22 hi hz0 hz1 hz2 _ (6 + h.tu.len) _ rfl O4.out (rowN w3.heap.size 1 [BitVec.ofNat 8 h.fr.len]) (rowN_ok (Row.new _ _ _) rfl) rfl (by show 6 + h.tu.len + 1 ≤ 8388608; omega) Z4.out ?_
       intro y5 w5 own5 grow5
       have D5 := veil (D4.out.grown grow5 Z4.out (fun q e => (O4.out.lt q e).1))
       have O5 := veil own5
       clear own5 grow5 O3 D3 Z3 O4 D4 Z4 c2
       have Z5 := veil (ZC.out _ D5.out.size)
       have c2 := HD.c2 (R0.out.below (DB.out _ D5.out) R0.out.lt))
    | (with_reducible (show wpList _ _ _ (⟨some 47, Op.call _, _, _, _, _⟩ :: _) _ _)
       refine append_sl rfl _ _ 22 rfl (w.heap.size + 1) i0 Tryz.underlying22 hi hz0 hz1 hz2 _ (6 + h.tu.len + 1) _ rfl O5.out h.fr (K0.out.below (DB.out _ D5.out)).fr rfl (by show 6 + h.tu.len + 1 + h.fr.len ≤ 8388608; omega) Z5.out ?_
       intro y6 w6 own6 grow6
       have D6 := veil (D5.out.grown grow6 Z5.out (fun q e => (O5.out.lt q e).1))
       have O6 := veil own6
       clear own6 grow6 O5 D5 Z5 c2
       have Z6 := veil (ZC.out _ D6.out.size))
    | (with_reducible (show wpList _ _ _ (⟨some 56, Op.call _, _, _, _, _⟩ :: _) _ _)
       rw [← HE1.out, HE2.out]
       have D7 := veil (D6.out.alloc Z6.out (.cells #[.int .u8 0, .int .u8 (v8 (64#8 ||| BitVec.ofNat 8 (R / 256))), .int .u8 (v8 (BitVec.ofNat 8 R))] 5))
       have Z7 := veil (ZC.out _ D7.out.size)
       have O7 := veil (O6.out.alloc (.cells #[.int .u8 0, .int .u8 (v8 (64#8 ||| BitVec.ofNat 8 (R / 256))), .int .u8 (v8 (BitVec.ofNat 8 R))] 5))
       refine append_sl rfl _ _ 22 rfl (w.heap.size + 1) i0 Tryz.underlying22 hi hz0 hz1 hz2 _ (6 + h.tu.len + 1 + h.fr.len) _ rfl O7.out (rowN w6.heap.size 3 [0, 64#8 ||| BitVec.ofNat 8 (R / 256), BitVec.ofNat 8 R]) (rowN_ok (Row.new _ _ _) rfl) rfl (by show 6 + h.tu.len + 1 + h.fr.len + 3 ≤ 8388608; omega) Z7.out ?_
       intro y8 w8 own8 grow8
       have D8 := veil (D7.out.grown grow8 Z7.out (fun q e => (O7.out.lt q e).1))
       have O8 := veil own8
       clear own8 grow8 O6 D6 Z6 O7 D7 Z7))
  go_ret
  refine ⟨_, rfl, ?_, B0.out.trans ((DB.out _ D8.out).mono B0.out.size)⟩
  have hlen : (preL h.ph 3 R).length = 6 + h.tu.len + 1 + h.fr.len + 3 := by
    rw [HPR.out]
    simp only [List.length_append, List.length_cons, List.length_nil, TB.out, FB.out]
  rw [hlen, HPR.out]
  exact own_low O8.out (Nat.le_succ _)

set_option maxRecDepth 20000 in
set_option maxHeartbeats 1000000 in
theorem refHead_l4 (h : HD) (R : Nat) (w : World) (hk : h.Ok w) (ht : h.tu.len ≤ 20) (hf : h.fr.len ≤ 20) (hR : R / 256 < 64) (hl : h.long = true) (hp : h.phase = false) :
    Calls Tryz.prog 28 #[.agg h.cells, .int .i64 4, .int .i64 (R : Int)] w fun e w' => ∃ v, e = .returned v ∧ w'.ownsRow w.heap.size 5 1 v (preL h.ph 4 R).length (vb (preL h.ph 4 R)) ∧ Below w.heap.size w w' := by
  obtain ⟨i0, hi, hz0, hz1, hz2⟩ := info_parts (P := Tryz.prog) (e := 5) (z := .int .u8 0) (size := 1) (bytes := 1) (by kernel_rfl)
  have b0 := (Below.refl w.heap.size w).alloc (Nat.le_refl _) (.cells h.cells 25)
  have r : Row (w.alloc (.cells h.cells 25)) w.heap.size 25 h.cells := Row.new _ _ _
  have c0 := HD.c0 r
  have c1 := HD.c1 r
  rw [hl] at c0
  have B0 := veil b0
  have K0 := veil (hk.below b0)
  have R0 := veil r
  have TB := veil hk.tu.hb
  have FB := veil hk.fr.hb
  have HPR : Hid (preL h.ph 4 R = [firstB true false 4, 0, 0, 0, 1, BitVec.ofNat 8 h.tu.len] ++ h.tu.b ++ [BitVec.ofNat 8 h.fr.len] ++ h.fr.b ++ [0, 64#8 ||| BitVec.ofNat 8 (R / 256), BitVec.ofNat 8 R]) := by
    unfold preL HD.ph
    simp only
    rw [hl, hp, if_pos rfl, TB.out, FB.out]
    exact rfl
  have HV := veil (show (h.tu.len : Int) = v8 (BitVec.ofNat 8 h.tu.len) by rw [v8_len]; omega)
  have HW := veil (show (h.fr.len : Int) = v8 (BitVec.ofNat 8 h.fr.len) by rw [v8_len]; omega)
  have HE1 := veil (two_b R hR)
  have HE2 := veil (show (R : Int) % 256 = v8 (BitVec.ofNat 8 R) from (v8_len R).symm)
  clear hk b0 r hl hp
  have e0 : (w.alloc (.cells h.cells 25)).heap.size = w.heap.size + 1 := by simp
  have DB : Hid (∀ W, Below (w.heap.size + 1) (w.alloc (.cells h.cells 25)) W → Below (w.alloc (.cells h.cells 25)).heap.size (w.alloc (.cells h.cells 25)) W) := fun W hW => by rw [e0]; exact hW
  have O2 : Hid (((w.alloc (.cells h.cells 25)).alloc (.cells #[.int .u8 195, .int .u8 0, .int .u8 0, .int .u8 0, .int .u8 1, .int .u8 (h.tu.len : Int)] 5)).ownsRow (w.alloc (.cells h.cells 25)).heap.size 5 1 (.slice (some ⟨(w.alloc (.cells h.cells 25)).heap.size, 0, none⟩) 6 6) 6 (vb [firstB true false 4, 0, 0, 0, 1, BitVec.ofNat 8 h.tu.len])) := by
    rw [HV.out]
    exact own_litB (w.alloc (.cells h.cells 25)) [firstB true false 4, 0, 0, 0, 1, BitVec.ofNat 8 h.tu.len] (by unfold maxLen; simp)
  have D2 := veil ((Below.refl (w.alloc (.cells h.cells 25)).heap.size (w.alloc (.cells h.cells 25))).alloc (Nat.le_refl _) (.cells #[.int .u8 195, .int .u8 0, .int .u8 0, .int .u8 0, .int .u8 1, .int .u8 (h.tu.len : Int)] 5))
  have d1 := HD.c1 (R0.out.below D2.out R0.out.lt)
  rw [e0] at O2 D2
  have ZC : Hid (∀ n, (w.alloc (.cells h.cells 25)).heap.size ≤ n → w.heap.size + 1 ≤ n) := fun n hn => by rw [e0] at hn; exact hn
  have Z2 := veil (ZC.out _ D2.out.size)
  clear e0
  go_enter Tryz.func28, Tryz.ntmps28
  go_wp2_with (first
    | (with_reducible (show wpList _ _ _ (⟨some 36, Op.call _, _, _, _, _⟩ :: _) _ _)
       refine append_sl rfl _ _ 22 rfl (w.heap.size + 1) i0 Tryz.underlying22 hi hz0 hz1 hz2 _ 6 _ rfl O2.out h.tu (K0.out.below (DB.out _ D2.out)).tu rfl (by omega) Z2.out ?_
       intro y3 w3 own3 grow3
       have D3 := veil (D2.out.grown grow3 Z2.out (fun q e => (O2.out.lt q e).1))
       have O3 := veil own3
       clear own3 grow3 O2 D2 Z2 c0 c1 d1
       have Z3 := veil (ZC.out _ D3.out.size)
       have c2 := HD.c2 (R0.out.below (DB.out _ D3.out) R0.out.lt))
    | (with_reducible (show wpList _ _ _ (⟨some 43, Op.call _, _, _, _, _⟩ :: _) _ _)
       rw [HW.out]
       have D4 := veil (D3.out.alloc Z3.out (.cells #[.int .u8 (v8 (BitVec.ofNat 8 h.fr.len))] 5))
       have Z4 := veil (ZC.out _ D4.out.size)
       have O4 := veil (O3.out.alloc (.cells #[.int .u8 (v8 (BitVec.ofNat 8 h.fr.len))] 5))
       refine append_sl rfl _ _ 22 rfl (w.heap.size + 1) i0 Tryz.underlying22 hi hz0 hz1 hz2 _ (6 + h.tu.len) _ rfl O4.out (rowN w3.heap.size 1 [BitVec.ofNat 8 h.fr.len]) (rowN_ok (Row.new _ _ _) rfl) rfl (by show 6 + h.tu.len + 1 ≤ 8388608; omega) Z4.out ?_
       intro y5 w5 own5 grow5
       have D5 := veil (D4.out.grown grow5 Z4.out (fun q e => (O4.out.lt q e).1))
       have O5 := veil own5
       clear own5 grow5 O3 D3 Z3 O4 D4 Z4 c2
       have Z5 := veil (ZC.out _ D5.out.size)
       have c2 := HD.c2 (R0.out.below (DB.out _ D5.out) R0.out.lt))
    | (with_reducible (show wpList _ _ _ (⟨some 47, Op.call _, _, _, _, _⟩ :: _) _ _)
       refine append_sl rfl _ _ 22 rfl (w.heap.size + 1) i0 Tryz.underlying22 hi hz0 hz1 hz2 _ (6 + h.tu.len + 1) _ rfl O5.out h.fr (K0.out.below (DB.out _ D5.out)).fr rfl (by show 6 + h.tu.len + 1 + h.fr.len ≤ 8388608; omega) Z5.out ?_
       intro y6 w6 own6 grow6
       have D6 := veil (D5.out.grown grow6 Z5.out (fun q e => (O5.out.lt q e).1))
       have O6 := veil own6
       clear own6 grow6 O5 D5 Z5 c2
       have Z6 := veil (ZC.out _ D6.out.size))
    | (with_reducible (show wpList _ _ _ (⟨some 56, Op.call _, _, _, _, _⟩ :: _) _ _)
       rw [← HE1.out, HE2.out]
       have D7 := veil (D6.out.alloc Z6.out (.cells #[.int .u8 0, .int .u8 (v8 (64#8 ||| BitVec.ofNat 8 (R / 256))), .int .u8 (v8 (BitVec.ofNat 8 R))] 5))
       have Z7 := veil (ZC.out _ D7.out.size)
       have O7 := veil (O6.out.alloc (.cells #[.int .u8 0, .int .u8 (v8 (64#8 ||| BitVec.ofNat 8 (R / 256))), .int .u8 (v8 (BitVec.ofNat 8 R))] 5))
       refine append_sl rfl _ _ 22 rfl (w.heap.size + 1) i0 Tryz.underlying22 hi hz0 hz1 hz2 _ (6 + h.tu.len + 1 + h.fr.len) _ rfl O7.out (rowN w6.heap.size 3 [0, 64#8 ||| BitVec.ofNat 8 (R / 256), BitVec.ofNat 8 R]) (rowN_ok (Row.new _ _ _) rfl) rfl (by show 6 + h.tu.len + 1 + h.fr.len + 3 ≤ 8388608; omega) Z7.out ?_
       intro y8 w8 own8 grow8
       have D8 := veil (D7.out.grown grow8 Z7.out (fun q e => (O7.out.lt q e).1))
       have O8 := veil own8
       clear own8 grow8 O6 D6 Z6 O7 D7 Z7))
  go_ret
  refine ⟨_, rfl, ?_, B0.out.trans ((DB.out _ D8.out).mono B0.out.size)⟩
  have hlen : (preL h.ph 4 R).length = 6 + h.tu.len + 1 + h.fr.len + 3 := by
    rw [HPR.out]
    simp only [List.length_append, List.length_cons, List.length_nil, TB.out, FB.out]
  rw [hlen, HPR.out]
  exact own_low O8.out (Nat.le_succ _)

theorem refHead_any (h : HD) (n R : Nat) (w : World) (hk : h.Ok w) (h1 : 1 ≤ n) (h4 : n ≤ 4) (ht : h.tu.len ≤ 20) (hf : h.fr.len ≤ 20) (hR : R / 256 < 64) (hp : h.long = true → h.phase = false) :
    Calls Tryz.prog 28 #[.agg h.cells, .int .i64 (n : Int), .int .i64 (R : Int)] w fun e w' => ∃ v, e = .returned v ∧ w'.ownsRow w.heap.size 5 1 v (preL h.ph n R).length (vb (preL h.ph n R)) ∧ Below w.heap.size w w' := by
  have hn : n = 1 ∨ n = 2 ∨ n = 3 ∨ n = 4 := by omega
  cases hl : h.long
  · cases hh : h.phase
    · rcases hn with rfl | rfl | rfl | rfl
      · exact refHead_s1n h R w hk ht hl hh
      · exact refHead_s2n h R w hk ht hl hh
      · exact refHead_s3n h R w hk ht hl hh
      · exact refHead_s4n h R w hk ht hl hh
    · rcases hn with rfl | rfl | rfl | rfl
      · exact refHead_s1p h R w hk ht hl hh
      · exact refHead_s2p h R w hk ht hl hh
      · exact refHead_s3p h R w hk ht hl hh
      · exact refHead_s4p h R w hk ht hl hh
  · rcases hn with rfl | rfl | rfl | rfl
    · exact refHead_l1 h R w hk ht hf hR hl (hp hl)
    · exact refHead_l2 h R w hk ht hf hR hl (hp hl)
    · exact refHead_l3 h R w hk ht hf hR hl (hp hl)
    · exact refHead_l4 h R w hk ht hf hR hl (hp hl)
end Go.Proofs.YtbheoldakmcppaaGreatDoor
