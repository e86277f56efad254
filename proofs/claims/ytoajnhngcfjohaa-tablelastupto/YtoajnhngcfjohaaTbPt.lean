/-
  The program's table in memory; what only reads it.
-/
import Derived.Test.YtoajnhngcfjohaaTbRef
import Derived.Test.YtoajnhngcfjohaaTbLine
import Derived.BigQuiet
namespace Go.Proofs.Ytoajnhngcfjohaa
open Go Go.RowKit

namespace Tb
def ptH (r s g : Nat) : List Value := [.bool true, .int .i64 (r : Int), .int .i64 (s : Int), .int .u64 (g : Int)]
def ptT (p q : Nat) : List Value := [.int .i64 (p : Int), .int .i64 (q : Int)]
/-- The program's table: A are the fields at its places, those from p on, up to q, are there. -/
def ptC (r s g : Nat) (A : List Fd) (p q : Nat) : Array Value := (ptH r s g ++ (fds A ++ ptT p q)).toArray
abbrev PtR (w : World) (h r s g : Nat) (A : List Fd) (p q : Nat) : Prop := Row w h 60 (ptC r s g A p q)
structure PtOk (w : World) (h : Nat) (t : Tab) (A : List Fd) (p q : Nat) : Prop where
  row : PtR w h t.room (size t.l) t.went A p q
  al : A.length = 256
  pq : p + t.l.length = q
  q1 : q ≤ 256
  l : ∀ j, j < t.l.length → A[p + j]? = t.l[j]?
  sz : size t.l ≤ 4096
  rb : t.room ≤ 4096
  wb : t.came ≤ 1000000000000
section
variable {w : World} {h r s g : Nat} {A : List Fd} {p q : Nat}
theorem ptC_size (hA : A.length = 256) : (ptC r s g A p q).size = 518 := by simp [ptC, ptH, ptT, fds_length, hA]
theorem pr0 (x : PtR w h r s g A p q) : w.cell? ⟨h, 0, none⟩ = some (.bool true) := (Row.cell x 0).trans (by simp [ptC, ptH])
theorem pr1 (x : PtR w h r s g A p q) : w.cell? ⟨h, 1, none⟩ = some (.int .i64 (r : Int)) := (Row.cell x 1).trans (by simp [ptC, ptH])
theorem pr2 (x : PtR w h r s g A p q) : w.cell? ⟨h, 2, none⟩ = some (.int .i64 (s : Int)) := (Row.cell x 2).trans (by simp [ptC, ptH])
theorem pr3 (x : PtR w h r s g A p q) : w.cell? ⟨h, 3, none⟩ = some (.int .u64 (g : Int)) := (Row.cell x 3).trans (by simp [ptC, ptH])
theorem pr5 (x : PtR w h r s g A p q) (hA : A.length = 256) : w.cell? ⟨h, 516, none⟩ = some (.int .i64 (p : Int)) := by
  have hl : (fds A).length = 512 := by rw [fds_length, hA]
  rw [Row.cell x 516]
  simp [ptC, ptH, ptT, hl]
theorem pr6 (x : PtR w h r s g A p q) (hA : A.length = 256) : w.cell? ⟨h, 517, none⟩ = some (.int .i64 (q : Int)) := by
  have hl : (fds A).length = 512 := by rw [fds_length, hA]
  rw [Row.cell x 517]
  simp [ptC, ptH, ptT, hl]
theorem ptC_A {j : Nat} {u : Value} (hu : (fds A)[j]? = some u) : (ptC r s g A p q)[4 + j]? = some u := by
  have hl := (List.getElem?_eq_some_iff.1 hu).1
  simp only [ptC, List.getElem?_toArray]
  rw [List.getElem?_append_right (by simp [ptH]), List.getElem?_append_left (by simpa [ptH] using hl)]
  simpa [ptH] using hu
/-- A field at a place. -/
theorem prF (x : PtR w h r s g A p q) {j : Nat} {f : Fd} (hf : A[j]? = some f) : w.rangeAt h (4 + j * 2) f.cells.toList :=
  Row.rangeH x _ _ fun i v e => by
    have hi : i < 2 := by have := (List.getElem?_eq_some_iff.1 e).1; exact this
    rw [Nat.add_assoc]
    exact ptC_A ((fds_get A j f i hf hi).trans e)
theorem ptC_one : (ptC r s g A p q).all Value.oneCell' = true := by
  rw [Array.all_eq_true_iff_forall_mem]
  intro u hu
  simp only [ptC, List.mem_toArray] at hu
  rcases List.mem_append.1 hu with e | e
  · simp [ptH] at e; rcases e with rfl | rfl | rfl | rfl <;> rfl
  · rcases List.mem_append.1 e with e | e
    · exact fds_one _ u e
    · simp [ptT] at e; rcases e with rfl | rfl <;> rfl
theorem set_room (x : PtR w h r s g A p q) (r' : Nat) : PtR (w.setCell ⟨h, 1, none⟩ (.int .i64 (r' : Int))) h r' s g A p q := by
  have := Row.set x 1 (.int .i64 (r' : Int))
  simpa [PtR, ptC, ptH] using this
theorem set_size (x : PtR w h r s g A p q) (s' : Nat) : PtR (w.setCell ⟨h, 2, none⟩ (.int .i64 (s' : Int))) h r s' g A p q := by
  have := Row.set x 2 (.int .i64 (s' : Int))
  simpa [PtR, ptC, ptH] using this
theorem set_gone (x : PtR w h r s g A p q) (g' : Nat) : PtR (w.setCell ⟨h, 3, none⟩ (.int .u64 (g' : Int))) h r s g' A p q := by
  have := Row.set x 3 (.int .u64 (g' : Int))
  simpa [PtR, ptC, ptH] using this
theorem set_tail {X : List Value} (H : List Value) (hH : H.length = 4) (hX : X.length = 512) (a b v : Value) : ((H ++ (X ++ [a, b])).toArray.setIfInBounds 516 v = (H ++ (X ++ [v, b])).toArray) ∧ ((H ++ (X ++ [a, b])).toArray.setIfInBounds 517 v = (H ++ (X ++ [a, v])).toArray) := by
  constructor <;>
  · rw [List.setIfInBounds_toArray, List.set_append_right _ _ (by omega), List.set_append_right _ _ (by omega), hH, hX]
    rfl
theorem set_from (x : PtR w h r s g A p q) (hA : A.length = 256) (p' : Nat) : PtR (w.setCell ⟨h, 516, none⟩ (.int .i64 (p' : Int))) h r s g A p' q := by
  have := Row.set x 516 (.int .i64 (p' : Int))
  unfold ptC ptT at this
  rw [(set_tail (ptH r s g) rfl (by rw [fds_length, hA]) _ _ _).1] at this
  exact this
theorem set_to (x : PtR w h r s g A p q) (hA : A.length = 256) (q' : Nat) : PtR (w.setCell ⟨h, 517, none⟩ (.int .i64 (q' : Int))) h r s g A p q' := by
  have := Row.set x 517 (.int .i64 (q' : Int))
  unfold ptC ptT at this
  rw [(set_tail (ptH r s g) rfl (by rw [fds_length, hA]) _ _ _).2] at this
  exact this
theorem fds_take (l : List Fd) (k : Nat) : (fds l).take (k * 2) = fds (l.take k) := by
  rcases Nat.lt_or_ge l.length k with hk | hk
  · rw [List.take_of_length_le (by rw [fds_length]; omega), List.take_of_length_le (by omega)]
  · have : fds l = fds (l.take k) ++ fds (l.drop k) := by rw [← fds_append, List.take_append_drop]
    rw [this, List.take_append_of_le_length (by rw [fds_length, List.length_take]; omega), List.take_of_length_le (by rw [fds_length, List.length_take]; omega)]
theorem fds_drop (l : List Fd) (k : Nat) : (fds l).drop (k * 2) = fds (l.drop k) := by
  rcases Nat.lt_or_ge l.length k with hk | hk
  · rw [List.drop_of_length_le (by rw [fds_length]; omega), List.drop_of_length_le (by omega)]
    rfl
  · have : fds l = fds (l.take k) ++ fds (l.drop k) := by rw [← fds_append, List.take_append_drop]
    rw [this, List.drop_append_of_le_length (by rw [fds_length, List.length_take]; omega), List.drop_of_length_le (by rw [fds_length, List.length_take]; omega), List.nil_append]
/-- Cells within the fields' part are other ones. -/
theorem set_fields (x : PtR w h r s g A p q) (j : Nat) (B : List Fd) (hj : j + B.length ≤ A.length) : PtR (w.setCells h (4 + j * 2) (fds B)) h r s g (A.take j ++ B ++ A.drop (j + B.length)) p q := by
  have lB := fds_length B
  have lA := fds_length A
  have hs : (ptC r s g A p q).toList = ptH r s g ++ (fds A ++ ptT p q) := rfl
  have := Row.setCells (fds B) (4 + j * 2) x (by simp only [ptC, List.size_toArray, List.length_append, ptH, ptT, List.length_cons, List.length_nil]; omega)
  rw [hs] at this
  have e1 : (ptH r s g ++ (fds A ++ ptT p q)).take (4 + j * 2) = ptH r s g ++ fds (A.take j) := by
    rw [show 4 + j * 2 = (ptH r s g).length + j * 2 from rfl, List.take_length_add_append, List.take_append_of_le_length (by omega), fds_take]
  have e2 : (ptH r s g ++ (fds A ++ ptT p q)).drop (4 + j * 2 + (fds B).length) = fds (A.drop (j + B.length)) ++ ptT p q := by
    rw [lB, show 4 + j * 2 + B.length * 2 = (ptH r s g).length + (j + B.length) * 2 by simp [ptH]; omega, List.drop_length_add_append, List.drop_append_of_le_length (by omega), fds_drop]
  rw [e1, e2] at this
  unfold PtR ptC
  rw [fds_append, fds_append]
  simpa only [List.append_assoc] using this
end
section
variable {w : World} {h : Nat} {t : Tab} {A : List Fd} {p q : Nat}
theorem PtOk.below {w' : World} (x : PtOk w h t A p q) (hb : Below w.heap.size w w') : PtOk w' h t A p q := ⟨Row.below x.row hb (Row.lt x.row), x.al, x.pq, x.q1, x.l, x.sz, x.rb, x.wb⟩
theorem PtOk.same {w' : World} (x : PtOk w h t A p q) (hk : w'.heap[h]? = w.heap[h]?) : PtOk w' h t A p q := ⟨hk.trans x.row, x.al, x.pq, x.q1, x.l, x.sz, x.rb, x.wb⟩
theorem PtOk.c0 (x : PtOk w h t A p q) : w.cell? ⟨h, 0, none⟩ = some (.bool true) := pr0 x.row
theorem PtOk.c1 (x : PtOk w h t A p q) : w.cell? ⟨h, 1, none⟩ = some (.int .i64 (t.room : Int)) := pr1 x.row
theorem PtOk.c2 (x : PtOk w h t A p q) : w.cell? ⟨h, 2, none⟩ = some (.int .i64 (size t.l : Nat)) := pr2 x.row
theorem PtOk.c3 (x : PtOk w h t A p q) : w.cell? ⟨h, 3, none⟩ = some (.int .u64 (t.went : Int)) := pr3 x.row
theorem PtOk.c5 (x : PtOk w h t A p q) : w.cell? ⟨h, 516, none⟩ = some (.int .i64 (p : Int)) := pr5 x.row x.al
theorem PtOk.c6 (x : PtOk w h t A p q) : w.cell? ⟨h, 517, none⟩ = some (.int .i64 (q : Int)) := pr6 x.row x.al
end
set_option maxRecDepth 100000 in
set_option maxHeartbeats 4000000 in
theorem tab_none {w : World} {h : Nat} {t : Tab} {A : List Fd} {p q : Nat} (x : PtOk w h t A p q) : Calls Try.prog 32 #[.pointer (some ⟨h, 0, none⟩)] w fun e w' => e = .returned (.bool false) ∧ w' = w := by
  have x0 := x.c0
  clear x
  go_enter Try.func32, Try.ntmps32
  go_wp2_with fail
  go_ret
  exact ⟨rfl, rfl⟩
set_option maxRecDepth 100000 in
set_option maxHeartbeats 4000000 in
theorem tab_none_nil (w : World) : Calls Try.prog 32 #[.pointer none] w fun e w' => e = .returned (.bool true) ∧ w' = w := by
  go_enter Try.func32, Try.ntmps32
  go_wp2_with fail
  go_ret
  exact ⟨rfl, rfl⟩
set_option maxRecDepth 100000 in
set_option maxHeartbeats 4000000 in
theorem tab_may (n : Int) (w : World) : Calls Try.prog 31 #[.int .i64 n] w fun e w' => e = .returned (.bool (decide (0 ≤ n ∧ n ≤ 4096))) ∧ w' = w := by
  by_cases h0 : 0 ≤ n
  · by_cases h1 : n ≤ 4096
    · have e : decide (0 ≤ n ∧ n ≤ 4096) = true := decide_eq_true ⟨h0, h1⟩
      have n2 : decide (0 ≤ n) = true := by simp; omega
      have n3 : decide (n ≤ 4096) = true := by simp; omega
      rw [e]
      clear e
      go_enter Try.func31, Try.ntmps31
      go_wp2_with fail
      go_ret
      exact ⟨rfl, rfl⟩
    · have e : decide (0 ≤ n ∧ n ≤ 4096) = false := decide_eq_false (fun q => h1 q.2)
      have n2 : decide (0 ≤ n) = true := by simp; omega
      have n3 : decide (n ≤ 4096) = false := by simp; omega
      rw [e]
      clear e
      go_enter Try.func31, Try.ntmps31
      go_wp2_with fail
      go_ret
      exact ⟨rfl, rfl⟩
  · have e : decide (0 ≤ n ∧ n ≤ 4096) = false := decide_eq_false (fun q => h0 q.1)
    have n2 : decide (0 ≤ n) = false := by simp; omega
    rw [e]
    clear e
    go_enter Try.func31, Try.ntmps31
    go_wp2_with fail
    go_ret
    exact ⟨rfl, rfl⟩
set_option maxRecDepth 100000 in
set_option maxHeartbeats 4000000 in
theorem tab_size1 (f : Fd) (hf : f.1.size + f.2.size ≤ 1000000000000000000) (w : World) : Calls Try.prog 34 #[.agg f.cells] w fun e w' => e = .returned (.int .i64 (sz f : Nat)) ∧ Below w.heap.size w w' := by
  obtain ⟨fa, fb⟩ := f
  have hs : sz (fa, fb) = fa.size + fb.size + 32 := rfl
  rw [hs]
  obtain ⟨La, hLa⟩ : ∃ La, fa.size = La := ⟨_, rfl⟩
  obtain ⟨Lb, hLb⟩ : ∃ Lb, fb.size = Lb := ⟨_, rfl⟩
  simp only [hLa, hLb] at hf ⊢
  have w1 : IntKind.i64.wrap ((La : Int) + (Lb : Int)) = ((La + Lb : Nat) : Int) := by rw [IntKind.wrap_i64]; omega
  have w2 : IntKind.i64.wrap (((La + Lb : Nat) : Int) + 32) = ((La + Lb + 32 : Nat) : Int) := by rw [IntKind.wrap_i64]; omega
  clear hs
  generalize La + Lb = S1 at *
  generalize S1 + 32 = S2 at *
  show Calls Try.prog 34 #[.agg #[.string fa, .string fb]] w _
  go_enter Try.func34, Try.ntmps34
  go_wp2_with fail
  go_ret
  exact ⟨rfl, (Below.refl w.heap.size w).alloc (Nat.le_refl _) _⟩
end Tb
end Go.Proofs.Ytoajnhngcfjohaa
