/-
  Out of FrRefBare, FrRefSet.
-/
import Derived.Test.YtaighdppemnglaaGreatDoorGf12
import Derived.BigQuiet

/-! The document's bare. Written by mkrefbare.py. -/
namespace Go.Proofs.YtaighdppemnglaaGreatDoor
open Go Go.RowKit

set_option maxRecDepth 20000 in
set_option maxHeartbeats 4000000 in
theorem ref_bare_0010000 (f : FrM) (w : World) (hf : f.Ok w) :
    Calls Tryz.prog 82 #[.agg f.cells, .bool false, .bool false, .bool true, .bool false, .bool false, .bool false, .bool false] w fun e w' => ∃ b : Bool, e = .returned (.bool b) ∧ (b = true ↔ Fr.bareF f.fr false false true false false false false) ∧ Below w.heap.size w w' := by
  obtain ⟨k, st, of, li, co, fi, da, ra⟩ := f
  have r0 : Row (w.alloc (.cells (FrM.mk k st of li co fi da ra).cells 37)) w.heap.size 37 (FrM.mk k st of li co fi da ra).cells := Row.new _ _ _
  have b0 : Below w.heap.size w (w.alloc (.cells (FrM.mk k st of li co fi da ra).cells 37)) := (Below.refl _ w).alloc (Nat.le_refl _) _
  obtain ⟨c0, c1, c2, c3, c4, c5, c6, c7⟩ := fr_cells r0
  simp only at c0 c1 c2 c3 c4 c5 c6 c7
  have HB0 := veil b0
  have hdb : da.b = [] ↔ da.len = 0 := by rw [← (show da.b.length = da.len from hf.data.hb), List.length_eq_zero_iff]
  have hrb : ra.l = [] ↔ ra.len = 0 := by rw [← (show ra.l.length = ra.len from hf.ranges.hb), List.length_eq_zero_iff]
  clear r0 b0 hf
  by_cases z0 : st = 0
  · have e0 : ((st : Int) == 0) = true := by simp; omega
    by_cases z1 : of = 0
    · have e1 : ((of : Int) == 0) = true := by simp; omega
      by_cases z3 : co = 0
      · have e3 : ((co : Int) == 0) = true := by simp; omega
        cases fi with
        | true =>
          have HH := veil (show (false = true ↔ Fr.bareF (FrM.mk k st of li co true da ra).fr false false true false false false false) by
            unfold Fr.bareF FrM.fr
            simp)
          clear hdb hrb z0 z1 z3
          go_enter Tryz.func82, Tryz.ntmps82
          go_wp2_with fail
          go_ret
          exact ⟨_, rfl, HH.out, HB0.out⟩
        | false =>
          by_cases z5 : da.len = 0
          · have e5 : ((da.len : Int) == 0) = true := by simp; omega
            by_cases z6 : ra.len = 0
            · have e6 : ((ra.len : Int) == 0) = true := by simp; omega
              have HH := veil (show (true = true ↔ Fr.bareF (FrM.mk k st of li co false da ra).fr false false true false false false false) by
                unfold Fr.bareF FrM.fr
                simp [z0, z1, z3, z5, hdb, z6, hrb])
              clear hdb hrb z0 z1 z3 z5 z6
              go_enter Tryz.func82, Tryz.ntmps82
              go_wp2_with fail
              go_ret
              exact .inr ⟨rfl, HH.out.1 trivial, HB0.out⟩
            · have e6 : ((ra.len : Int) == 0) = false := by simp; omega
              have HH := veil (show (false = true ↔ Fr.bareF (FrM.mk k st of li co false da ra).fr false false true false false false false) by
                unfold Fr.bareF FrM.fr
                simp [z6, hrb])
              clear hdb hrb z0 z1 z3 z5 z6
              go_enter Tryz.func82, Tryz.ntmps82
              go_wp2_with fail
              go_ret
              exact ⟨_, rfl, HH.out, HB0.out⟩
          · have e5 : ((da.len : Int) == 0) = false := by simp; omega
            have HH := veil (show (false = true ↔ Fr.bareF (FrM.mk k st of li co false da ra).fr false false true false false false false) by
              unfold Fr.bareF FrM.fr
              simp [z5, hdb])
            clear hdb hrb z0 z1 z3 z5
            go_enter Tryz.func82, Tryz.ntmps82
            go_wp2_with fail
            go_ret
            exact ⟨_, rfl, HH.out, HB0.out⟩
      · have e3 : ((co : Int) == 0) = false := by simp; omega
        have HH := veil (show (false = true ↔ Fr.bareF (FrM.mk k st of li co fi da ra).fr false false true false false false false) by
          unfold Fr.bareF FrM.fr
          simp [z3])
        clear hdb hrb z0 z1 z3
        go_enter Tryz.func82, Tryz.ntmps82
        go_wp2_with fail
        go_ret
        exact ⟨_, rfl, HH.out, HB0.out⟩
    · have e1 : ((of : Int) == 0) = false := by simp; omega
      have HH := veil (show (false = true ↔ Fr.bareF (FrM.mk k st of li co fi da ra).fr false false true false false false false) by
        unfold Fr.bareF FrM.fr
        simp [z1])
      clear hdb hrb z0 z1
      go_enter Tryz.func82, Tryz.ntmps82
      go_wp2_with fail
      go_ret
      exact ⟨_, rfl, HH.out, HB0.out⟩
  · have e0 : ((st : Int) == 0) = false := by simp; omega
    have HH := veil (show (false = true ↔ Fr.bareF (FrM.mk k st of li co fi da ra).fr false false true false false false false) by
      unfold Fr.bareF FrM.fr
      simp [z0])
    clear hdb hrb z0
    go_enter Tryz.func82, Tryz.ntmps82
    go_wp2_with fail
    go_ret
    exact ⟨_, rfl, HH.out, HB0.out⟩

set_option maxRecDepth 20000 in
set_option maxHeartbeats 4000000 in
theorem ref_bare_0000000 (f : FrM) (w : World) (hf : f.Ok w) :
    Calls Tryz.prog 82 #[.agg f.cells, .bool false, .bool false, .bool false, .bool false, .bool false, .bool false, .bool false] w fun e w' => ∃ b : Bool, e = .returned (.bool b) ∧ (b = true ↔ Fr.bareF f.fr false false false false false false false) ∧ Below w.heap.size w w' := by
  obtain ⟨k, st, of, li, co, fi, da, ra⟩ := f
  have r0 : Row (w.alloc (.cells (FrM.mk k st of li co fi da ra).cells 37)) w.heap.size 37 (FrM.mk k st of li co fi da ra).cells := Row.new _ _ _
  have b0 : Below w.heap.size w (w.alloc (.cells (FrM.mk k st of li co fi da ra).cells 37)) := (Below.refl _ w).alloc (Nat.le_refl _) _
  obtain ⟨c0, c1, c2, c3, c4, c5, c6, c7⟩ := fr_cells r0
  simp only at c0 c1 c2 c3 c4 c5 c6 c7
  have HB0 := veil b0
  have hdb : da.b = [] ↔ da.len = 0 := by rw [← (show da.b.length = da.len from hf.data.hb), List.length_eq_zero_iff]
  have hrb : ra.l = [] ↔ ra.len = 0 := by rw [← (show ra.l.length = ra.len from hf.ranges.hb), List.length_eq_zero_iff]
  clear r0 b0 hf
  by_cases z0 : st = 0
  · have e0 : ((st : Int) == 0) = true := by simp; omega
    by_cases z1 : of = 0
    · have e1 : ((of : Int) == 0) = true := by simp; omega
      by_cases z2 : li = 0
      · have e2 : ((li : Int) == 0) = true := by simp; omega
        by_cases z3 : co = 0
        · have e3 : ((co : Int) == 0) = true := by simp; omega
          cases fi with
          | true =>
            have HH := veil (show (false = true ↔ Fr.bareF (FrM.mk k st of li co true da ra).fr false false false false false false false) by
              unfold Fr.bareF FrM.fr
              simp)
            clear hdb hrb z0 z1 z2 z3
            go_enter Tryz.func82, Tryz.ntmps82
            go_wp2_with fail
            go_ret
            exact ⟨_, rfl, HH.out, HB0.out⟩
          | false =>
            by_cases z5 : da.len = 0
            · have e5 : ((da.len : Int) == 0) = true := by simp; omega
              by_cases z6 : ra.len = 0
              · have e6 : ((ra.len : Int) == 0) = true := by simp; omega
                have HH := veil (show (true = true ↔ Fr.bareF (FrM.mk k st of li co false da ra).fr false false false false false false false) by
                  unfold Fr.bareF FrM.fr
                  simp [z0, z1, z2, z3, z5, hdb, z6, hrb])
                clear hdb hrb z0 z1 z2 z3 z5 z6
                go_enter Tryz.func82, Tryz.ntmps82
                go_wp2_with fail
                go_ret
                exact .inr ⟨rfl, HH.out.1 trivial, HB0.out⟩
              · have e6 : ((ra.len : Int) == 0) = false := by simp; omega
                have HH := veil (show (false = true ↔ Fr.bareF (FrM.mk k st of li co false da ra).fr false false false false false false false) by
                  unfold Fr.bareF FrM.fr
                  simp [z6, hrb])
                clear hdb hrb z0 z1 z2 z3 z5 z6
                go_enter Tryz.func82, Tryz.ntmps82
                go_wp2_with fail
                go_ret
                exact ⟨_, rfl, HH.out, HB0.out⟩
            · have e5 : ((da.len : Int) == 0) = false := by simp; omega
              have HH := veil (show (false = true ↔ Fr.bareF (FrM.mk k st of li co false da ra).fr false false false false false false false) by
                unfold Fr.bareF FrM.fr
                simp [z5, hdb])
              clear hdb hrb z0 z1 z2 z3 z5
              go_enter Tryz.func82, Tryz.ntmps82
              go_wp2_with fail
              go_ret
              exact ⟨_, rfl, HH.out, HB0.out⟩
        · have e3 : ((co : Int) == 0) = false := by simp; omega
          have HH := veil (show (false = true ↔ Fr.bareF (FrM.mk k st of li co fi da ra).fr false false false false false false false) by
            unfold Fr.bareF FrM.fr
            simp [z3])
          clear hdb hrb z0 z1 z2 z3
          go_enter Tryz.func82, Tryz.ntmps82
          go_wp2_with fail
          go_ret
          exact ⟨_, rfl, HH.out, HB0.out⟩
      · have e2 : ((li : Int) == 0) = false := by simp; omega
        have HH := veil (show (false = true ↔ Fr.bareF (FrM.mk k st of li co fi da ra).fr false false false false false false false) by
          unfold Fr.bareF FrM.fr
          simp [z2])
        clear hdb hrb z0 z1 z2
        go_enter Tryz.func82, Tryz.ntmps82
        go_wp2_with fail
        go_ret
        exact ⟨_, rfl, HH.out, HB0.out⟩
    · have e1 : ((of : Int) == 0) = false := by simp; omega
      have HH := veil (show (false = true ↔ Fr.bareF (FrM.mk k st of li co fi da ra).fr false false false false false false false) by
        unfold Fr.bareF FrM.fr
        simp [z1])
      clear hdb hrb z0 z1
      go_enter Tryz.func82, Tryz.ntmps82
      go_wp2_with fail
      go_ret
      exact ⟨_, rfl, HH.out, HB0.out⟩
  · have e0 : ((st : Int) == 0) = false := by simp; omega
    have HH := veil (show (false = true ↔ Fr.bareF (FrM.mk k st of li co fi da ra).fr false false false false false false false) by
      unfold Fr.bareF FrM.fr
      simp [z0])
    clear hdb hrb z0
    go_enter Tryz.func82, Tryz.ntmps82
    go_wp2_with fail
    go_ret
    exact ⟨_, rfl, HH.out, HB0.out⟩

set_option maxRecDepth 20000 in
set_option maxHeartbeats 4000000 in
theorem ref_bare_0010001 (f : FrM) (w : World) (hf : f.Ok w) :
    Calls Tryz.prog 82 #[.agg f.cells, .bool false, .bool false, .bool true, .bool false, .bool false, .bool false, .bool true] w fun e w' => ∃ b : Bool, e = .returned (.bool b) ∧ (b = true ↔ Fr.bareF f.fr false false true false false false true) ∧ Below w.heap.size w w' := by
  obtain ⟨k, st, of, li, co, fi, da, ra⟩ := f
  have r0 : Row (w.alloc (.cells (FrM.mk k st of li co fi da ra).cells 37)) w.heap.size 37 (FrM.mk k st of li co fi da ra).cells := Row.new _ _ _
  have b0 : Below w.heap.size w (w.alloc (.cells (FrM.mk k st of li co fi da ra).cells 37)) := (Below.refl _ w).alloc (Nat.le_refl _) _
  obtain ⟨c0, c1, c2, c3, c4, c5, c6, c7⟩ := fr_cells r0
  simp only at c0 c1 c2 c3 c4 c5 c6 c7
  have HB0 := veil b0
  have hdb : da.b = [] ↔ da.len = 0 := by rw [← (show da.b.length = da.len from hf.data.hb), List.length_eq_zero_iff]
  have hrb : ra.l = [] ↔ ra.len = 0 := by rw [← (show ra.l.length = ra.len from hf.ranges.hb), List.length_eq_zero_iff]
  clear r0 b0 hf
  by_cases z0 : st = 0
  · have e0 : ((st : Int) == 0) = true := by simp; omega
    by_cases z1 : of = 0
    · have e1 : ((of : Int) == 0) = true := by simp; omega
      by_cases z3 : co = 0
      · have e3 : ((co : Int) == 0) = true := by simp; omega
        cases fi with
        | true =>
          have HH := veil (show (false = true ↔ Fr.bareF (FrM.mk k st of li co true da ra).fr false false true false false false true) by
            unfold Fr.bareF FrM.fr
            simp)
          clear hdb hrb z0 z1 z3
          go_enter Tryz.func82, Tryz.ntmps82
          go_wp2_with fail
          go_ret
          exact ⟨_, rfl, HH.out, HB0.out⟩
        | false =>
          by_cases z5 : da.len = 0
          · have e5 : ((da.len : Int) == 0) = true := by simp; omega
            have HH := veil (show (true = true ↔ Fr.bareF (FrM.mk k st of li co false da ra).fr false false true false false false true) by
              unfold Fr.bareF FrM.fr
              simp [z0, z1, z3, z5, hdb])
            clear hdb hrb z0 z1 z3 z5
            go_enter Tryz.func82, Tryz.ntmps82
            go_wp2_with fail
            go_ret
            exact .inr ⟨rfl, HH.out.1 trivial, HB0.out⟩
          · have e5 : ((da.len : Int) == 0) = false := by simp; omega
            have HH := veil (show (false = true ↔ Fr.bareF (FrM.mk k st of li co false da ra).fr false false true false false false true) by
              unfold Fr.bareF FrM.fr
              simp [z5, hdb])
            clear hdb hrb z0 z1 z3 z5
            go_enter Tryz.func82, Tryz.ntmps82
            go_wp2_with fail
            go_ret
            exact ⟨_, rfl, HH.out, HB0.out⟩
      · have e3 : ((co : Int) == 0) = false := by simp; omega
        have HH := veil (show (false = true ↔ Fr.bareF (FrM.mk k st of li co fi da ra).fr false false true false false false true) by
          unfold Fr.bareF FrM.fr
          simp [z3])
        clear hdb hrb z0 z1 z3
        go_enter Tryz.func82, Tryz.ntmps82
        go_wp2_with fail
        go_ret
        exact ⟨_, rfl, HH.out, HB0.out⟩
    · have e1 : ((of : Int) == 0) = false := by simp; omega
      have HH := veil (show (false = true ↔ Fr.bareF (FrM.mk k st of li co fi da ra).fr false false true false false false true) by
        unfold Fr.bareF FrM.fr
        simp [z1])
      clear hdb hrb z0 z1
      go_enter Tryz.func82, Tryz.ntmps82
      go_wp2_with fail
      go_ret
      exact ⟨_, rfl, HH.out, HB0.out⟩
  · have e0 : ((st : Int) == 0) = false := by simp; omega
    have HH := veil (show (false = true ↔ Fr.bareF (FrM.mk k st of li co fi da ra).fr false false true false false false true) by
      unfold Fr.bareF FrM.fr
      simp [z0])
    clear hdb hrb z0
    go_enter Tryz.func82, Tryz.ntmps82
    go_wp2_with fail
    go_ret
    exact ⟨_, rfl, HH.out, HB0.out⟩

set_option maxRecDepth 20000 in
set_option maxHeartbeats 4000000 in
theorem ref_bare_1011000 (f : FrM) (w : World) (hf : f.Ok w) :
    Calls Tryz.prog 82 #[.agg f.cells, .bool true, .bool false, .bool true, .bool true, .bool false, .bool false, .bool false] w fun e w' => ∃ b : Bool, e = .returned (.bool b) ∧ (b = true ↔ Fr.bareF f.fr true false true true false false false) ∧ Below w.heap.size w w' := by
  obtain ⟨k, st, of, li, co, fi, da, ra⟩ := f
  have r0 : Row (w.alloc (.cells (FrM.mk k st of li co fi da ra).cells 37)) w.heap.size 37 (FrM.mk k st of li co fi da ra).cells := Row.new _ _ _
  have b0 : Below w.heap.size w (w.alloc (.cells (FrM.mk k st of li co fi da ra).cells 37)) := (Below.refl _ w).alloc (Nat.le_refl _) _
  obtain ⟨c0, c1, c2, c3, c4, c5, c6, c7⟩ := fr_cells r0
  simp only at c0 c1 c2 c3 c4 c5 c6 c7
  have HB0 := veil b0
  have hdb : da.b = [] ↔ da.len = 0 := by rw [← (show da.b.length = da.len from hf.data.hb), List.length_eq_zero_iff]
  have hrb : ra.l = [] ↔ ra.len = 0 := by rw [← (show ra.l.length = ra.len from hf.ranges.hb), List.length_eq_zero_iff]
  clear r0 b0 hf
  by_cases z1 : of = 0
  · have e1 : ((of : Int) == 0) = true := by simp; omega
    cases fi with
    | true =>
      have HH := veil (show (false = true ↔ Fr.bareF (FrM.mk k st of li co true da ra).fr true false true true false false false) by
        unfold Fr.bareF FrM.fr
        simp)
      clear hdb hrb z1
      go_enter Tryz.func82, Tryz.ntmps82
      go_wp2_with fail
      go_ret
      exact ⟨_, rfl, HH.out, HB0.out⟩
    | false =>
      by_cases z5 : da.len = 0
      · have e5 : ((da.len : Int) == 0) = true := by simp; omega
        by_cases z6 : ra.len = 0
        · have e6 : ((ra.len : Int) == 0) = true := by simp; omega
          have HH := veil (show (true = true ↔ Fr.bareF (FrM.mk k st of li co false da ra).fr true false true true false false false) by
            unfold Fr.bareF FrM.fr
            simp [z1, z5, hdb, z6, hrb])
          clear hdb hrb z1 z5 z6
          go_enter Tryz.func82, Tryz.ntmps82
          go_wp2_with fail
          go_ret
          exact .inr ⟨rfl, HH.out.1 trivial, HB0.out⟩
        · have e6 : ((ra.len : Int) == 0) = false := by simp; omega
          have HH := veil (show (false = true ↔ Fr.bareF (FrM.mk k st of li co false da ra).fr true false true true false false false) by
            unfold Fr.bareF FrM.fr
            simp [z6, hrb])
          clear hdb hrb z1 z5 z6
          go_enter Tryz.func82, Tryz.ntmps82
          go_wp2_with fail
          go_ret
          exact ⟨_, rfl, HH.out, HB0.out⟩
      · have e5 : ((da.len : Int) == 0) = false := by simp; omega
        have HH := veil (show (false = true ↔ Fr.bareF (FrM.mk k st of li co false da ra).fr true false true true false false false) by
          unfold Fr.bareF FrM.fr
          simp [z5, hdb])
        clear hdb hrb z1 z5
        go_enter Tryz.func82, Tryz.ntmps82
        go_wp2_with fail
        go_ret
        exact ⟨_, rfl, HH.out, HB0.out⟩
  · have e1 : ((of : Int) == 0) = false := by simp; omega
    have HH := veil (show (false = true ↔ Fr.bareF (FrM.mk k st of li co fi da ra).fr true false true true false false false) by
      unfold Fr.bareF FrM.fr
      simp [z1])
    clear hdb hrb z1
    go_enter Tryz.func82, Tryz.ntmps82
    go_wp2_with fail
    go_ret
    exact ⟨_, rfl, HH.out, HB0.out⟩

set_option maxRecDepth 20000 in
set_option maxHeartbeats 4000000 in
theorem ref_bare_1001000 (f : FrM) (w : World) (hf : f.Ok w) :
    Calls Tryz.prog 82 #[.agg f.cells, .bool true, .bool false, .bool false, .bool true, .bool false, .bool false, .bool false] w fun e w' => ∃ b : Bool, e = .returned (.bool b) ∧ (b = true ↔ Fr.bareF f.fr true false false true false false false) ∧ Below w.heap.size w w' := by
  obtain ⟨k, st, of, li, co, fi, da, ra⟩ := f
  have r0 : Row (w.alloc (.cells (FrM.mk k st of li co fi da ra).cells 37)) w.heap.size 37 (FrM.mk k st of li co fi da ra).cells := Row.new _ _ _
  have b0 : Below w.heap.size w (w.alloc (.cells (FrM.mk k st of li co fi da ra).cells 37)) := (Below.refl _ w).alloc (Nat.le_refl _) _
  obtain ⟨c0, c1, c2, c3, c4, c5, c6, c7⟩ := fr_cells r0
  simp only at c0 c1 c2 c3 c4 c5 c6 c7
  have HB0 := veil b0
  have hdb : da.b = [] ↔ da.len = 0 := by rw [← (show da.b.length = da.len from hf.data.hb), List.length_eq_zero_iff]
  have hrb : ra.l = [] ↔ ra.len = 0 := by rw [← (show ra.l.length = ra.len from hf.ranges.hb), List.length_eq_zero_iff]
  clear r0 b0 hf
  by_cases z1 : of = 0
  · have e1 : ((of : Int) == 0) = true := by simp; omega
    by_cases z2 : li = 0
    · have e2 : ((li : Int) == 0) = true := by simp; omega
      cases fi with
      | true =>
        have HH := veil (show (false = true ↔ Fr.bareF (FrM.mk k st of li co true da ra).fr true false false true false false false) by
          unfold Fr.bareF FrM.fr
          simp)
        clear hdb hrb z1 z2
        go_enter Tryz.func82, Tryz.ntmps82
        go_wp2_with fail
        go_ret
        exact ⟨_, rfl, HH.out, HB0.out⟩
      | false =>
        by_cases z5 : da.len = 0
        · have e5 : ((da.len : Int) == 0) = true := by simp; omega
          by_cases z6 : ra.len = 0
          · have e6 : ((ra.len : Int) == 0) = true := by simp; omega
            have HH := veil (show (true = true ↔ Fr.bareF (FrM.mk k st of li co false da ra).fr true false false true false false false) by
              unfold Fr.bareF FrM.fr
              simp [z1, z2, z5, hdb, z6, hrb])
            clear hdb hrb z1 z2 z5 z6
            go_enter Tryz.func82, Tryz.ntmps82
            go_wp2_with fail
            go_ret
            exact .inr ⟨rfl, HH.out.1 trivial, HB0.out⟩
          · have e6 : ((ra.len : Int) == 0) = false := by simp; omega
            have HH := veil (show (false = true ↔ Fr.bareF (FrM.mk k st of li co false da ra).fr true false false true false false false) by
              unfold Fr.bareF FrM.fr
              simp [z6, hrb])
            clear hdb hrb z1 z2 z5 z6
            go_enter Tryz.func82, Tryz.ntmps82
            go_wp2_with fail
            go_ret
            exact ⟨_, rfl, HH.out, HB0.out⟩
        · have e5 : ((da.len : Int) == 0) = false := by simp; omega
          have HH := veil (show (false = true ↔ Fr.bareF (FrM.mk k st of li co false da ra).fr true false false true false false false) by
            unfold Fr.bareF FrM.fr
            simp [z5, hdb])
          clear hdb hrb z1 z2 z5
          go_enter Tryz.func82, Tryz.ntmps82
          go_wp2_with fail
          go_ret
          exact ⟨_, rfl, HH.out, HB0.out⟩
    · have e2 : ((li : Int) == 0) = false := by simp; omega
      have HH := veil (show (false = true ↔ Fr.bareF (FrM.mk k st of li co fi da ra).fr true false false true false false false) by
        unfold Fr.bareF FrM.fr
        simp [z2])
      clear hdb hrb z1 z2
      go_enter Tryz.func82, Tryz.ntmps82
      go_wp2_with fail
      go_ret
      exact ⟨_, rfl, HH.out, HB0.out⟩
  · have e1 : ((of : Int) == 0) = false := by simp; omega
    have HH := veil (show (false = true ↔ Fr.bareF (FrM.mk k st of li co fi da ra).fr true false false true false false false) by
      unfold Fr.bareF FrM.fr
      simp [z1])
    clear hdb hrb z1
    go_enter Tryz.func82, Tryz.ntmps82
    go_wp2_with fail
    go_ret
    exact ⟨_, rfl, HH.out, HB0.out⟩

set_option maxRecDepth 20000 in
set_option maxHeartbeats 4000000 in
theorem ref_bare_0100010 (f : FrM) (w : World) (hf : f.Ok w) :
    Calls Tryz.prog 82 #[.agg f.cells, .bool false, .bool true, .bool false, .bool false, .bool false, .bool true, .bool false] w fun e w' => ∃ b : Bool, e = .returned (.bool b) ∧ (b = true ↔ Fr.bareF f.fr false true false false false true false) ∧ Below w.heap.size w w' := by
  obtain ⟨k, st, of, li, co, fi, da, ra⟩ := f
  have r0 : Row (w.alloc (.cells (FrM.mk k st of li co fi da ra).cells 37)) w.heap.size 37 (FrM.mk k st of li co fi da ra).cells := Row.new _ _ _
  have b0 : Below w.heap.size w (w.alloc (.cells (FrM.mk k st of li co fi da ra).cells 37)) := (Below.refl _ w).alloc (Nat.le_refl _) _
  obtain ⟨c0, c1, c2, c3, c4, c5, c6, c7⟩ := fr_cells r0
  simp only at c0 c1 c2 c3 c4 c5 c6 c7
  have HB0 := veil b0
  have hdb : da.b = [] ↔ da.len = 0 := by rw [← (show da.b.length = da.len from hf.data.hb), List.length_eq_zero_iff]
  have hrb : ra.l = [] ↔ ra.len = 0 := by rw [← (show ra.l.length = ra.len from hf.ranges.hb), List.length_eq_zero_iff]
  clear r0 b0 hf
  by_cases z0 : st = 0
  · have e0 : ((st : Int) == 0) = true := by simp; omega
    by_cases z2 : li = 0
    · have e2 : ((li : Int) == 0) = true := by simp; omega
      by_cases z3 : co = 0
      · have e3 : ((co : Int) == 0) = true := by simp; omega
        cases fi with
        | true =>
          have HH := veil (show (false = true ↔ Fr.bareF (FrM.mk k st of li co true da ra).fr false true false false false true false) by
            unfold Fr.bareF FrM.fr
            simp)
          clear hdb hrb z0 z2 z3
          go_enter Tryz.func82, Tryz.ntmps82
          go_wp2_with fail
          go_ret
          exact ⟨_, rfl, HH.out, HB0.out⟩
        | false =>
          by_cases z6 : ra.len = 0
          · have e6 : ((ra.len : Int) == 0) = true := by simp; omega
            have HH := veil (show (true = true ↔ Fr.bareF (FrM.mk k st of li co false da ra).fr false true false false false true false) by
              unfold Fr.bareF FrM.fr
              simp [z0, z2, z3, z6, hrb])
            clear hdb hrb z0 z2 z3 z6
            go_enter Tryz.func82, Tryz.ntmps82
            go_wp2_with fail
            go_ret
            exact .inr ⟨rfl, HH.out.1 trivial, HB0.out⟩
          · have e6 : ((ra.len : Int) == 0) = false := by simp; omega
            have HH := veil (show (false = true ↔ Fr.bareF (FrM.mk k st of li co false da ra).fr false true false false false true false) by
              unfold Fr.bareF FrM.fr
              simp [z6, hrb])
            clear hdb hrb z0 z2 z3 z6
            go_enter Tryz.func82, Tryz.ntmps82
            go_wp2_with fail
            go_ret
            exact ⟨_, rfl, HH.out, HB0.out⟩
      · have e3 : ((co : Int) == 0) = false := by simp; omega
        have HH := veil (show (false = true ↔ Fr.bareF (FrM.mk k st of li co fi da ra).fr false true false false false true false) by
          unfold Fr.bareF FrM.fr
          simp [z3])
        clear hdb hrb z0 z2 z3
        go_enter Tryz.func82, Tryz.ntmps82
        go_wp2_with fail
        go_ret
        exact ⟨_, rfl, HH.out, HB0.out⟩
    · have e2 : ((li : Int) == 0) = false := by simp; omega
      have HH := veil (show (false = true ↔ Fr.bareF (FrM.mk k st of li co fi da ra).fr false true false false false true false) by
        unfold Fr.bareF FrM.fr
        simp [z2])
      clear hdb hrb z0 z2
      go_enter Tryz.func82, Tryz.ntmps82
      go_wp2_with fail
      go_ret
      exact ⟨_, rfl, HH.out, HB0.out⟩
  · have e0 : ((st : Int) == 0) = false := by simp; omega
    have HH := veil (show (false = true ↔ Fr.bareF (FrM.mk k st of li co fi da ra).fr false true false false false true false) by
      unfold Fr.bareF FrM.fr
      simp [z0])
    clear hdb hrb z0
    go_enter Tryz.func82, Tryz.ntmps82
    go_wp2_with fail
    go_ret
    exact ⟨_, rfl, HH.out, HB0.out⟩

set_option maxRecDepth 20000 in
set_option maxHeartbeats 4000000 in
theorem ref_bare_1100110 (f : FrM) (w : World) (hf : f.Ok w) :
    Calls Tryz.prog 82 #[.agg f.cells, .bool true, .bool true, .bool false, .bool false, .bool true, .bool true, .bool false] w fun e w' => ∃ b : Bool, e = .returned (.bool b) ∧ (b = true ↔ Fr.bareF f.fr true true false false true true false) ∧ Below w.heap.size w w' := by
  obtain ⟨k, st, of, li, co, fi, da, ra⟩ := f
  have r0 : Row (w.alloc (.cells (FrM.mk k st of li co fi da ra).cells 37)) w.heap.size 37 (FrM.mk k st of li co fi da ra).cells := Row.new _ _ _
  have b0 : Below w.heap.size w (w.alloc (.cells (FrM.mk k st of li co fi da ra).cells 37)) := (Below.refl _ w).alloc (Nat.le_refl _) _
  obtain ⟨c0, c1, c2, c3, c4, c5, c6, c7⟩ := fr_cells r0
  simp only at c0 c1 c2 c3 c4 c5 c6 c7
  have HB0 := veil b0
  have hdb : da.b = [] ↔ da.len = 0 := by rw [← (show da.b.length = da.len from hf.data.hb), List.length_eq_zero_iff]
  have hrb : ra.l = [] ↔ ra.len = 0 := by rw [← (show ra.l.length = ra.len from hf.ranges.hb), List.length_eq_zero_iff]
  clear r0 b0 hf
  by_cases z2 : li = 0
  · have e2 : ((li : Int) == 0) = true := by simp; omega
    by_cases z3 : co = 0
    · have e3 : ((co : Int) == 0) = true := by simp; omega
      by_cases z6 : ra.len = 0
      · have e6 : ((ra.len : Int) == 0) = true := by simp; omega
        have HH := veil (show (true = true ↔ Fr.bareF (FrM.mk k st of li co fi da ra).fr true true false false true true false) by
          unfold Fr.bareF FrM.fr
          simp [z2, z3, z6, hrb])
        clear hdb hrb z2 z3 z6
        go_enter Tryz.func82, Tryz.ntmps82
        go_wp2_with fail
        go_ret
        exact .inr ⟨rfl, HH.out.1 trivial, HB0.out⟩
      · have e6 : ((ra.len : Int) == 0) = false := by simp; omega
        have HH := veil (show (false = true ↔ Fr.bareF (FrM.mk k st of li co fi da ra).fr true true false false true true false) by
          unfold Fr.bareF FrM.fr
          simp [z6, hrb])
        clear hdb hrb z2 z3 z6
        go_enter Tryz.func82, Tryz.ntmps82
        go_wp2_with fail
        go_ret
        exact ⟨_, rfl, HH.out, HB0.out⟩
    · have e3 : ((co : Int) == 0) = false := by simp; omega
      have HH := veil (show (false = true ↔ Fr.bareF (FrM.mk k st of li co fi da ra).fr true true false false true true false) by
        unfold Fr.bareF FrM.fr
        simp [z3])
      clear hdb hrb z2 z3
      go_enter Tryz.func82, Tryz.ntmps82
      go_wp2_with fail
      go_ret
      exact ⟨_, rfl, HH.out, HB0.out⟩
  · have e2 : ((li : Int) == 0) = false := by simp; omega
    have HH := veil (show (false = true ↔ Fr.bareF (FrM.mk k st of li co fi da ra).fr true true false false true true false) by
      unfold Fr.bareF FrM.fr
      simp [z2])
    clear hdb hrb z2
    go_enter Tryz.func82, Tryz.ntmps82
    go_wp2_with fail
    go_ret
    exact ⟨_, rfl, HH.out, HB0.out⟩

set_option maxRecDepth 20000 in
set_option maxHeartbeats 4000000 in
theorem ref_bare_1010000 (f : FrM) (w : World) (hf : f.Ok w) :
    Calls Tryz.prog 82 #[.agg f.cells, .bool true, .bool false, .bool true, .bool false, .bool false, .bool false, .bool false] w fun e w' => ∃ b : Bool, e = .returned (.bool b) ∧ (b = true ↔ Fr.bareF f.fr true false true false false false false) ∧ Below w.heap.size w w' := by
  obtain ⟨k, st, of, li, co, fi, da, ra⟩ := f
  have r0 : Row (w.alloc (.cells (FrM.mk k st of li co fi da ra).cells 37)) w.heap.size 37 (FrM.mk k st of li co fi da ra).cells := Row.new _ _ _
  have b0 : Below w.heap.size w (w.alloc (.cells (FrM.mk k st of li co fi da ra).cells 37)) := (Below.refl _ w).alloc (Nat.le_refl _) _
  obtain ⟨c0, c1, c2, c3, c4, c5, c6, c7⟩ := fr_cells r0
  simp only at c0 c1 c2 c3 c4 c5 c6 c7
  have HB0 := veil b0
  have hdb : da.b = [] ↔ da.len = 0 := by rw [← (show da.b.length = da.len from hf.data.hb), List.length_eq_zero_iff]
  have hrb : ra.l = [] ↔ ra.len = 0 := by rw [← (show ra.l.length = ra.len from hf.ranges.hb), List.length_eq_zero_iff]
  clear r0 b0 hf
  by_cases z1 : of = 0
  · have e1 : ((of : Int) == 0) = true := by simp; omega
    by_cases z3 : co = 0
    · have e3 : ((co : Int) == 0) = true := by simp; omega
      cases fi with
      | true =>
        have HH := veil (show (false = true ↔ Fr.bareF (FrM.mk k st of li co true da ra).fr true false true false false false false) by
          unfold Fr.bareF FrM.fr
          simp)
        clear hdb hrb z1 z3
        go_enter Tryz.func82, Tryz.ntmps82
        go_wp2_with fail
        go_ret
        exact ⟨_, rfl, HH.out, HB0.out⟩
      | false =>
        by_cases z5 : da.len = 0
        · have e5 : ((da.len : Int) == 0) = true := by simp; omega
          by_cases z6 : ra.len = 0
          · have e6 : ((ra.len : Int) == 0) = true := by simp; omega
            have HH := veil (show (true = true ↔ Fr.bareF (FrM.mk k st of li co false da ra).fr true false true false false false false) by
              unfold Fr.bareF FrM.fr
              simp [z1, z3, z5, hdb, z6, hrb])
            clear hdb hrb z1 z3 z5 z6
            go_enter Tryz.func82, Tryz.ntmps82
            go_wp2_with fail
            go_ret
            exact .inr ⟨rfl, HH.out.1 trivial, HB0.out⟩
          · have e6 : ((ra.len : Int) == 0) = false := by simp; omega
            have HH := veil (show (false = true ↔ Fr.bareF (FrM.mk k st of li co false da ra).fr true false true false false false false) by
              unfold Fr.bareF FrM.fr
              simp [z6, hrb])
            clear hdb hrb z1 z3 z5 z6
            go_enter Tryz.func82, Tryz.ntmps82
            go_wp2_with fail
            go_ret
            exact ⟨_, rfl, HH.out, HB0.out⟩
        · have e5 : ((da.len : Int) == 0) = false := by simp; omega
          have HH := veil (show (false = true ↔ Fr.bareF (FrM.mk k st of li co false da ra).fr true false true false false false false) by
            unfold Fr.bareF FrM.fr
            simp [z5, hdb])
          clear hdb hrb z1 z3 z5
          go_enter Tryz.func82, Tryz.ntmps82
          go_wp2_with fail
          go_ret
          exact ⟨_, rfl, HH.out, HB0.out⟩
    · have e3 : ((co : Int) == 0) = false := by simp; omega
      have HH := veil (show (false = true ↔ Fr.bareF (FrM.mk k st of li co fi da ra).fr true false true false false false false) by
        unfold Fr.bareF FrM.fr
        simp [z3])
      clear hdb hrb z1 z3
      go_enter Tryz.func82, Tryz.ntmps82
      go_wp2_with fail
      go_ret
      exact ⟨_, rfl, HH.out, HB0.out⟩
  · have e1 : ((of : Int) == 0) = false := by simp; omega
    have HH := veil (show (false = true ↔ Fr.bareF (FrM.mk k st of li co fi da ra).fr true false true false false false false) by
      unfold Fr.bareF FrM.fr
      simp [z1])
    clear hdb hrb z1
    go_enter Tryz.func82, Tryz.ntmps82
    go_wp2_with fail
    go_ret
    exact ⟨_, rfl, HH.out, HB0.out⟩

set_option maxRecDepth 20000 in
set_option maxHeartbeats 4000000 in
theorem ref_bare_0010100 (f : FrM) (w : World) (hf : f.Ok w) :
    Calls Tryz.prog 82 #[.agg f.cells, .bool false, .bool false, .bool true, .bool false, .bool true, .bool false, .bool false] w fun e w' => ∃ b : Bool, e = .returned (.bool b) ∧ (b = true ↔ Fr.bareF f.fr false false true false true false false) ∧ Below w.heap.size w w' := by
  obtain ⟨k, st, of, li, co, fi, da, ra⟩ := f
  have r0 : Row (w.alloc (.cells (FrM.mk k st of li co fi da ra).cells 37)) w.heap.size 37 (FrM.mk k st of li co fi da ra).cells := Row.new _ _ _
  have b0 : Below w.heap.size w (w.alloc (.cells (FrM.mk k st of li co fi da ra).cells 37)) := (Below.refl _ w).alloc (Nat.le_refl _) _
  obtain ⟨c0, c1, c2, c3, c4, c5, c6, c7⟩ := fr_cells r0
  simp only at c0 c1 c2 c3 c4 c5 c6 c7
  have HB0 := veil b0
  have hdb : da.b = [] ↔ da.len = 0 := by rw [← (show da.b.length = da.len from hf.data.hb), List.length_eq_zero_iff]
  have hrb : ra.l = [] ↔ ra.len = 0 := by rw [← (show ra.l.length = ra.len from hf.ranges.hb), List.length_eq_zero_iff]
  clear r0 b0 hf
  by_cases z0 : st = 0
  · have e0 : ((st : Int) == 0) = true := by simp; omega
    by_cases z1 : of = 0
    · have e1 : ((of : Int) == 0) = true := by simp; omega
      by_cases z3 : co = 0
      · have e3 : ((co : Int) == 0) = true := by simp; omega
        by_cases z5 : da.len = 0
        · have e5 : ((da.len : Int) == 0) = true := by simp; omega
          by_cases z6 : ra.len = 0
          · have e6 : ((ra.len : Int) == 0) = true := by simp; omega
            have HH := veil (show (true = true ↔ Fr.bareF (FrM.mk k st of li co fi da ra).fr false false true false true false false) by
              unfold Fr.bareF FrM.fr
              simp [z0, z1, z3, z5, hdb, z6, hrb])
            clear hdb hrb z0 z1 z3 z5 z6
            go_enter Tryz.func82, Tryz.ntmps82
            go_wp2_with fail
            go_ret
            exact .inr ⟨rfl, HH.out.1 trivial, HB0.out⟩
          · have e6 : ((ra.len : Int) == 0) = false := by simp; omega
            have HH := veil (show (false = true ↔ Fr.bareF (FrM.mk k st of li co fi da ra).fr false false true false true false false) by
              unfold Fr.bareF FrM.fr
              simp [z6, hrb])
            clear hdb hrb z0 z1 z3 z5 z6
            go_enter Tryz.func82, Tryz.ntmps82
            go_wp2_with fail
            go_ret
            exact ⟨_, rfl, HH.out, HB0.out⟩
        · have e5 : ((da.len : Int) == 0) = false := by simp; omega
          have HH := veil (show (false = true ↔ Fr.bareF (FrM.mk k st of li co fi da ra).fr false false true false true false false) by
            unfold Fr.bareF FrM.fr
            simp [z5, hdb])
          clear hdb hrb z0 z1 z3 z5
          go_enter Tryz.func82, Tryz.ntmps82
          go_wp2_with fail
          go_ret
          exact ⟨_, rfl, HH.out, HB0.out⟩
      · have e3 : ((co : Int) == 0) = false := by simp; omega
        have HH := veil (show (false = true ↔ Fr.bareF (FrM.mk k st of li co fi da ra).fr false false true false true false false) by
          unfold Fr.bareF FrM.fr
          simp [z3])
        clear hdb hrb z0 z1 z3
        go_enter Tryz.func82, Tryz.ntmps82
        go_wp2_with fail
        go_ret
        exact ⟨_, rfl, HH.out, HB0.out⟩
    · have e1 : ((of : Int) == 0) = false := by simp; omega
      have HH := veil (show (false = true ↔ Fr.bareF (FrM.mk k st of li co fi da ra).fr false false true false true false false) by
        unfold Fr.bareF FrM.fr
        simp [z1])
      clear hdb hrb z0 z1
      go_enter Tryz.func82, Tryz.ntmps82
      go_wp2_with fail
      go_ret
      exact ⟨_, rfl, HH.out, HB0.out⟩
  · have e0 : ((st : Int) == 0) = false := by simp; omega
    have HH := veil (show (false = true ↔ Fr.bareF (FrM.mk k st of li co fi da ra).fr false false true false true false false) by
      unfold Fr.bareF FrM.fr
      simp [z0])
    clear hdb hrb z0
    go_enter Tryz.func82, Tryz.ntmps82
    go_wp2_with fail
    go_ret
    exact ⟨_, rfl, HH.out, HB0.out⟩

set_option maxRecDepth 20000 in
set_option maxHeartbeats 4000000 in
theorem ref_bare_0001110 (f : FrM) (w : World) (hf : f.Ok w) :
    Calls Tryz.prog 82 #[.agg f.cells, .bool false, .bool false, .bool false, .bool true, .bool true, .bool true, .bool false] w fun e w' => ∃ b : Bool, e = .returned (.bool b) ∧ (b = true ↔ Fr.bareF f.fr false false false true true true false) ∧ Below w.heap.size w w' := by
  obtain ⟨k, st, of, li, co, fi, da, ra⟩ := f
  have r0 : Row (w.alloc (.cells (FrM.mk k st of li co fi da ra).cells 37)) w.heap.size 37 (FrM.mk k st of li co fi da ra).cells := Row.new _ _ _
  have b0 : Below w.heap.size w (w.alloc (.cells (FrM.mk k st of li co fi da ra).cells 37)) := (Below.refl _ w).alloc (Nat.le_refl _) _
  obtain ⟨c0, c1, c2, c3, c4, c5, c6, c7⟩ := fr_cells r0
  simp only at c0 c1 c2 c3 c4 c5 c6 c7
  have HB0 := veil b0
  have hdb : da.b = [] ↔ da.len = 0 := by rw [← (show da.b.length = da.len from hf.data.hb), List.length_eq_zero_iff]
  have hrb : ra.l = [] ↔ ra.len = 0 := by rw [← (show ra.l.length = ra.len from hf.ranges.hb), List.length_eq_zero_iff]
  clear r0 b0 hf
  by_cases z0 : st = 0
  · have e0 : ((st : Int) == 0) = true := by simp; omega
    by_cases z1 : of = 0
    · have e1 : ((of : Int) == 0) = true := by simp; omega
      by_cases z2 : li = 0
      · have e2 : ((li : Int) == 0) = true := by simp; omega
        by_cases z6 : ra.len = 0
        · have e6 : ((ra.len : Int) == 0) = true := by simp; omega
          have HH := veil (show (true = true ↔ Fr.bareF (FrM.mk k st of li co fi da ra).fr false false false true true true false) by
            unfold Fr.bareF FrM.fr
            simp [z0, z1, z2, z6, hrb])
          clear hdb hrb z0 z1 z2 z6
          go_enter Tryz.func82, Tryz.ntmps82
          go_wp2_with fail
          go_ret
          exact .inr ⟨rfl, HH.out.1 trivial, HB0.out⟩
        · have e6 : ((ra.len : Int) == 0) = false := by simp; omega
          have HH := veil (show (false = true ↔ Fr.bareF (FrM.mk k st of li co fi da ra).fr false false false true true true false) by
            unfold Fr.bareF FrM.fr
            simp [z6, hrb])
          clear hdb hrb z0 z1 z2 z6
          go_enter Tryz.func82, Tryz.ntmps82
          go_wp2_with fail
          go_ret
          exact ⟨_, rfl, HH.out, HB0.out⟩
      · have e2 : ((li : Int) == 0) = false := by simp; omega
        have HH := veil (show (false = true ↔ Fr.bareF (FrM.mk k st of li co fi da ra).fr false false false true true true false) by
          unfold Fr.bareF FrM.fr
          simp [z2])
        clear hdb hrb z0 z1 z2
        go_enter Tryz.func82, Tryz.ntmps82
        go_wp2_with fail
        go_ret
        exact ⟨_, rfl, HH.out, HB0.out⟩
    · have e1 : ((of : Int) == 0) = false := by simp; omega
      have HH := veil (show (false = true ↔ Fr.bareF (FrM.mk k st of li co fi da ra).fr false false false true true true false) by
        unfold Fr.bareF FrM.fr
        simp [z1])
      clear hdb hrb z0 z1
      go_enter Tryz.func82, Tryz.ntmps82
      go_wp2_with fail
      go_ret
      exact ⟨_, rfl, HH.out, HB0.out⟩
  · have e0 : ((st : Int) == 0) = false := by simp; omega
    have HH := veil (show (false = true ↔ Fr.bareF (FrM.mk k st of li co fi da ra).fr false false false true true true false) by
      unfold Fr.bareF FrM.fr
      simp [z0])
    clear hdb hrb z0
    go_enter Tryz.func82, Tryz.ntmps82
    go_wp2_with fail
    go_ret
    exact ⟨_, rfl, HH.out, HB0.out⟩

end Go.Proofs.YtaighdppemnglaaGreatDoor

/-! The document's Set: do ranges tell a set? -/
namespace Go.Proofs.YtaighdppemnglaaGreatDoor
open Go Go.RowKit

set_option maxRecDepth 20000 in
set_option maxHeartbeats 4000000 in
theorem ref_set (s : RL) (w : World) (hs : s.Ok w) :
    Calls Tryz.prog 83 #[.slice s.a s.len s.cap] w fun e w' => (e = .returned (.bool true) ∧ (s.l.length ≤ 64 ∧ Fr.setL s.l) ∨ e = .returned (.bool false) ∧ ¬ (s.l.length ≤ 64 ∧ Fr.setL s.l)) ∧ Below w.heap.size w w' := by
  obtain ⟨a, len, cap, g, off, l⟩ := s
  have hll : l.length = len := hs.hb
  by_cases h64 : 64 < len
  · have e64 : decide ((len : Int) > 64) = true := by simp; omega
    have e64' : decide ((64 : Int) < (len : Int)) = true := by simp; omega
    have HH := veil (show ¬ (l.length ≤ 64 ∧ Fr.setL l) from fun h => by have := h.1; omega)
    clear hs hll h64
    go_enter Tryz.func83, Tryz.ntmps83
    go_wp2_with fail
    go_ret
    exact ⟨.inr ⟨rfl, HH.out⟩, Below.refl _ _⟩
  · have e64 : decide ((64 : Int) < (len : Int)) = false := by simp; omega
    have HP := veil hs
    have HL := veil hll
    have H64 := veil h64
    clear hs hll h64
    go_enter Tryz.func83, Tryz.ntmps83
    go_wp2_with fail
    go_loopw [3] (fun i wr => ∃ k : Nat, k ≤ len ∧ i = .int .i64 k ∧ setTo l k ∧ Below w.heap.size w wr)
      (fun i _ => len - (intOf i).toNat)
    case atStart => exact ⟨0, Nat.zero_le _, rfl, fun j hj => absurd hj (Nat.not_lt_zero _), Below.refl _ _⟩
    case round =>
      obtain ⟨k, hk, rfl, hto, hbel⟩ := hrel
      have h64 := H64.out
      by_cases hlt : k < len
      · have e1 : a = some ⟨g, off, none⟩ := HP.out.at_ (show 0 < len by omega)
        subst e1
        obtain ⟨c1, c2⟩ := (HP.out.below hbel).cell k hlt
        have sm := HP.out.small k
        simp only at c1 c2 sm
        have HTO := veil hto
        have HB := veil hbel
        clear hto hbel
        have hno : ¬ ((gr l k).1 ≤ (gr l k).2 ∧ (gr l k).2 ≤ 4611686018427387903 ∧ (0 < k → (gr l (k - 1)).2 + 1 < (gr l k).1)) → ¬ (l.length ≤ 64 ∧ Fr.setL l) := fun hn hq => hn (setL_to l hq.2 (k + 1) (by have := HL.out; omega) k (by omega))
        have HNO := veil hno
        clear hno
        by_cases h1 : (gr l k).1 ≤ (gr l k).2
        · have f1 : decide (((gr l k).2 : Int) < ((gr l k).1 : Int)) = false := by simp; omega
          by_cases h2 : (gr l k).2 ≤ 4611686018427387903
          · have f2 : decide ((4611686018427387903 : Int) < ((gr l k).2 : Int)) = false := by simp; omega
            by_cases hk0 : k = 0
            · have f3 : decide ((0 : Int) < (k : Int)) = false := by simp; omega
              have f3n : decide (0 < k) = false := by simp; omega
              have HS := veil (setTo_succ HTO.out h1 h2 (fun h => by omega))
              clear h1 h2 hk0 HNO sm HTO
              generalize ((gr l k).1 : Int) = y at *
              generalize ((gr l k).2 : Int) = z at *
              go_wp2
              go_quiet (fail)
              go_wp2
              go_roundw
              case rel => exact ⟨k + 1, by omega, by go_num, HS.out, below_drewN HB.out _⟩
              case measure => simp [intOf]; omega
            · have f3 : decide ((0 : Int) < (k : Int)) = true := by simp; omega
              have f3n : decide (0 < k) = true := by simp; omega
              have hk1 : (k : Int) - 1 = ((k - 1 : Nat) : Int) := by omega
              have hk2 : k - 1 < len := by omega
              obtain ⟨c3, c4⟩ := (HP.out.below HB.out).cell (k - 1) hk2
              simp only at c3 c4
              have hp := (HTO.out (k - 1) (by omega)).2.1
              have hw : IntKind.u64.wrap (((gr l (k - 1)).2 : Int) + 1) = (((gr l (k - 1)).2 + 1 : Nat) : Int) := by rw [IntKind.wrap_u64]; omega
              by_cases h3 : (gr l (k - 1)).2 + 1 < (gr l k).1
              · have f4 : decide (((gr l k).1 : Int) ≤ (((gr l (k - 1)).2 + 1 : Nat) : Int)) = false := by simp; omega
                have HS := veil (setTo_succ HTO.out h1 h2 (fun _ => h3))
                clear h1 h2 h3 hk0 HNO sm HTO hp c3
                generalize (((gr l (k - 1)).2 + 1 : Nat) : Int) = p at *
                generalize ((gr l (k - 1)).2 : Int) = q at *
                generalize ((gr l k).1 : Int) = y at *
                generalize ((gr l k).2 : Int) = z at *
                go_wp2
                go_quiet (fail)
                go_wp2
                go_roundw
                case rel => exact ⟨k + 1, by omega, by go_num, HS.out, below_drewN HB.out _⟩
                case measure => simp [intOf]; omega
              · have f4 : decide (((gr l k).1 : Int) ≤ (((gr l (k - 1)).2 + 1 : Nat) : Int)) = true := by simp; omega
                have HH := veil (HNO.out fun h => h3 (h.2.2 (by omega)))
                clear h1 h2 h3 hk0 HNO sm HTO hp c3
                generalize (((gr l (k - 1)).2 + 1 : Nat) : Int) = p at *
                generalize ((gr l (k - 1)).2 : Int) = q at *
                generalize ((gr l k).1 : Int) = y at *
                generalize ((gr l k).2 : Int) = z at *
                go_wp2
                go_quiet (fail)
                go_wp2
                go_ret
                exact ⟨.inr ⟨rfl, HH.out⟩, below_drewN HB.out _⟩
          · have f2 : decide ((4611686018427387903 : Int) < ((gr l k).2 : Int)) = true := by simp; omega
            have HH := veil (HNO.out fun h => h2 h.2.1)
            clear h1 h2 HNO sm HTO
            generalize ((gr l k).1 : Int) = y at *
            generalize ((gr l k).2 : Int) = z at *
            go_wp2
            go_quiet (fail)
            go_wp2
            go_ret
            exact ⟨.inr ⟨rfl, HH.out⟩, below_drewN HB.out _⟩
        · have f1 : decide (((gr l k).1 : Int) > ((gr l k).2 : Int)) = true := by simp; omega
          have f1' : decide (((gr l k).2 : Int) < ((gr l k).1 : Int)) = true := by simp; omega
          have HH := veil (HNO.out fun h => h1 h.1)
          clear h1 HNO sm
          generalize ((gr l k).1 : Int) = y at *
          generalize ((gr l k).2 : Int) = z at *
          go_wp2
          go_quiet (fail)
          go_wp2
          go_ret
          exact ⟨.inr ⟨rfl, HH.out⟩, below_drewN HB.out _⟩
      · obtain rfl : len = k := by omega
        have HH := veil (show l.length ≤ 64 ∧ Fr.setL l from ⟨by have := HL.out; omega, setTo_L l (by rw [HL.out]; exact hto)⟩)
        have HB := veil hbel
        clear hto hbel
        go_wp2
        go_ret
        exact ⟨.inl ⟨rfl, HH.out⟩, HB.out⟩
end Go.Proofs.YtaighdppemnglaaGreatDoor
