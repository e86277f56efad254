/-
  ShaSums' walk.
-/
import Derived.Test.YtlhbeaoffmohlaaShaHelp
import Derived.Test.YtlhbeaoffmohlaaShaSumLim
import Derived.Test.YtlhbeaoffmohlaaShaRefSum
import Derived.Test.YtlhbeaoffmohlaaShaEq
import Derived.WalkKit
import Derived.WalkSpells
import Derived.WalkLawsBesides
namespace Go.Proofs.Ytlhbeaoffmohlaa
open Go Go.RowKit

/-- What both sums answer. -/
def answers (b : List By) : List By := if b.length ≤ 1048576 then sumL b else z32
def errnos (b : List By) : Int := if b.length ≤ 1048576 then 0 else 3
theorem answers_length (b : List By) : (answers b).length = 32 := by
  unfold answers
  split
  · exact sumL_length b
  · rfl

theorem sum_both (g off : Nat) (a : Option Addr) (len cap : Nat) (b : List By) (w : World) (hb : b.length = len) (hcap : len ≤ cap) (ha : 0 < len → a = some ⟨g, off, none⟩) (hgl : 0 < len → g < w.heap.size) (hc : ∀ j : Nat, j < len → w.cell? ⟨g, off + j, none⟩ = some (.int .u8 (v8 (gb b j)))) :
    Calls Try.prog 8 #[.slice a len cap] w fun e w' => e = .returned (.tuple #[.agg (bs (answers b)), .int .i64 (errnos b)]) ∧ Below w.heap.size w w' := by
  unfold answers errnos
  by_cases h : len ≤ 1048576
  · rw [if_pos (by omega), if_pos (by omega)]
    exact sum_any g off a len cap b w hb h hcap ha hgl hc
  · rw [if_neg (by omega), if_neg (by omega)]
    exact sum_limit a len cap w (by omega)
theorem refSum_both (g off : Nat) (a : Option Addr) (len cap : Nat) (b : List By) (w : World) (hb : b.length = len) (hn : a = none → len = 0 ∧ cap = 0) (ha : 0 < len → a = some ⟨g, off, none⟩) (hgl : 0 < len → g < w.heap.size) (hc : ∀ j : Nat, j < len → w.cell? ⟨g, off + j, none⟩ = some (.int .u8 (v8 (gb b j)))) :
    Calls Try.prog 9 #[.slice a len cap] w fun e w' => e = .returned (.tuple #[.agg (bs (answers b)), .int .i64 (errnos b)]) ∧ Below w.heap.size w w' := by
  unfold answers errnos
  by_cases h : len ≤ 1048576
  · rw [if_pos (by omega), if_pos (by omega)]
    exact refSum_any g off a len cap b w hb h hn ha hgl hc
  · rw [if_neg (by omega), if_neg (by omega)]
    exact refSum_limit a len cap w (by omega)

set_option maxRecDepth 20000 in
set_option maxHeartbeats 1000000 in
theorem sums_walk (g off : Nat) (a : Option Addr) (len cap : Nat) (b : List By) (w : World) (hb : b.length = len) (hl63 : len ≤ 9223372036854775807) (hn : a = none → len = 0 ∧ cap = 0) (ha : 0 < len → a = some ⟨g, off, none⟩) (hgl : 0 < len → g < w.heap.size) (hc : ∀ j : Nat, j < len → w.cell? ⟨g, off + j, none⟩ = some (.int .u8 (v8 (gb b j)))) :
    Calls Try.prog 3 #[.slice a len cap] w fun e w' => e = .returned (.bool true) ∧ Below w.heap.size w w' := by
  have HB := veil hb
  have HA := veil ha
  have HN := veil hn
  have HGL := veil hgl
  have HC := veil hc
  clear hb ha hgl hc hn
  go_enter Try.func3, Try.ntmps3
  by_cases hbig : (2097152 : Int) < (len : Int)
  · go_wp2_with fail
    go_ret
    exact ⟨rfl, Below.refl _ _⟩
  · have hlen : len ≤ 2097152 := by omega
    go_wp2_with fail
    refine (twin_any a len cap (nums b) w (by rw [nums_length, HB.out]) hlen (lies_of HB.out HA.out HGL.out HC.out)).mono ?_
    rintro e1 w1 ⟨g1, rfl, hown1, hb1⟩
    obtain ⟨hg1, hg1', hcs1, h77⟩ := twin_cells (by rw [nums_length, HB.out]) hown1
    have HC1 := veil hcs1
    have H77 := veil h77
    have HB1 := veil hb1
    have hs1 := hb1.size
    clear hown1 hcs1 h77 hb1
    go_wp2_with fail
    refine (sum_both g1 0 _ len (len + 1) b w1 HB.out (by omega) (fun _ => rfl) (fun _ => hg1) (fun j hj => by
      rw [Nat.zero_add, HC1.out j hj, nums_get b j (by rw [HB.out]; exact hj)])).mono ?_
    rintro e2 w2 ⟨rfl, hb2⟩
    have HB2 := veil (HB1.out.trans (hb2.mono hs1))
    have HC2 : Hid (∀ j : Nat, j < len → w2.cell? ⟨g1, j, none⟩ = some (.int .u8 ((nums b)[j]?.getD 0))) := fun j hj => (hb2.cell (p := ⟨g1, j, none⟩) hg1).trans (HC1.out j hj)
    have H772 : Hid (w2.cell? ⟨g1, len, none⟩ = some (.int .u8 77)) := (hb2.cell (p := ⟨g1, len, none⟩) hg1).trans H77.out
    have hs2 := hb2.size
    clear hb2 HC1 H77 HB1
    have hans := veil (answers_length b)
    have hans2 : (bs (answers b)).size = 32 := by rw [bs_size, hans.out]
    go_wp2_with (first
      | (with_reducible (show wpList _ _ _ (⟨_, Op.alloc 24, _, _, _, _⟩ :: _) _ _)
         refine alloc_row rfl 24 rfl (bs z32) (by kernel_rfl) ?_)
      | (with_reducible (show wpList _ _ _ (⟨_, Op.store 24 _ _, _, _, _, _⟩ :: _) _ _)
         refine store_new (w := w2) (by rfl) 24 _ _ (by rfl) w2.heap.size (bs (answers b)) (by rfl) (by rfl) 24 (bs z32) (by rfl) 32 (by kernel_rfl) (by rfl) hans2 (bs_one _) ?_))
    have hbA : Below w2.heap.size w2 (w2.alloc (.cells (bs (answers b)) 24)) := (Below.refl _ w2).alloc (Nat.le_refl _) _
    have HB3 := veil (HB2.out.trans (hbA.mono HB2.out.size))
    refine (refSum_both g off a len cap b _ HB.out HN.out HA.out (fun h => Nat.lt_of_lt_of_le (HGL.out h) HB3.out.size) (fun j hj => (HB3.out.cell (p := ⟨g, off + j, none⟩) (HGL.out (by omega))).trans (HC.out j hj))).mono ?_
    rintro e3 w3 ⟨rfl, hb3⟩
    have q1 : Row w3 w2.heap.size 24 (bs (answers b)) := Row.below (Row.new _ _ _) hb3 (by simp)
    have hb23 : Below w2.heap.size w2 w3 := hbA.trans (hb3.mono (by simp))
    have HB4 := veil (HB2.out.trans (hb23.mono HB2.out.size))
    have HC4 : Hid (∀ j : Nat, j < len → w3.cell? ⟨g1, j, none⟩ = some (.int .u8 ((nums b)[j]?.getD 0))) := fun j hj => (hb23.cell (p := ⟨g1, j, none⟩) (by show g1 < w2.heap.size; omega)).trans (HC2.out j hj)
    have H774 : Hid (w3.cell? ⟨g1, len, none⟩ = some (.int .u8 77)) := (hb23.cell (p := ⟨g1, len, none⟩) (by show g1 < w2.heap.size; omega)).trans H772.out
    have hs3 := hb23.size
    clear hb3 hb23 hbA HB2 HB3 HC2 H772
    have q2 : Row (w3.alloc (.cells (bs (answers b)) 24)) w3.heap.size 24 (bs (answers b)) := Row.new _ _ _
    have q3 : Row (w3.alloc (.cells (bs (answers b)) 24)) w2.heap.size 24 (bs (answers b)) := q1.alloc _
    generalize answers b = T at *
    generalize errnos b = E at *
    go_wp2_with (first
      | (with_reducible (show wpList _ _ _ (⟨_, Op.alloc 24, _, _, _, _⟩ :: _) _ _)
         refine alloc_row rfl 24 rfl (bs z32) (by kernel_rfl) ?_)
      | (with_reducible (show wpList _ _ _ (⟨_, Op.store 24 _ _, _, _, _, _⟩ :: _) _ _)
         refine store_new (w := w3) (by rfl) 24 _ _ (by rfl) w3.heap.size (bs T) (by rfl) (by rfl) 24 (bs z32) (by rfl) 32 (by kernel_rfl) (by rfl) hans2 (bs_one _) ?_)
      | (with_reducible (show wpList _ _ _ (⟨some 23, Op.load 24 _, _, _, _, _⟩ :: _) _ _)
         refine load_row rfl 24 _ rfl w2.heap.size rfl _ _ q3 32 5 Try.underlying24 (by kernel_rfl) hans2 ?_)
      | (with_reducible (show wpList _ _ _ (⟨some 24, Op.load 24 _, _, _, _, _⟩ :: _) _ _)
         refine load_row rfl 24 _ rfl w3.heap.size rfl _ _ q2 32 5 Try.underlying24 (by kernel_rfl) hans2 ?_)
      | (with_reducible (show wpList _ _ _ (⟨some 25, Op.binOp _ _ _ _ _, _, _, _, _⟩ :: _) _ _)
         refine value_G (by rfl) (.bool true) (exec_eql_self _ 24 5 32 .u8 (.tmp 23) (.tmp 24) 24 (bs T) rfl rfl rfl Try.underlying24 Try.underlying5 (by kernel_rfl) (by kernel_rfl) (by kernel_rfl) (fun j hj => ⟨_, bs_get T j (by rw [hans.out]; exact hj)⟩)) ?_))
    have hbB : Below w3.heap.size w3 (w3.alloc (.cells (bs T) 24)) := (Below.refl _ w3).alloc (Nat.le_refl _) _
    have HB5 := veil (HB4.out.trans (hbB.mono HB4.out.size))
    refine (left_any g1 a len cap (nums b) _ (by rw [nums_length, HB.out]) hlen (lies_of HB.out HA.out (fun h => Nat.lt_of_lt_of_le (HGL.out h) HB5.out.size) (fun j hj => (HB5.out.cell (p := ⟨g, off + j, none⟩) (HGL.out (by omega))).trans (HC.out j hj))) (by simp; omega) (fun j hj => (hbB.cell (p := ⟨g1, j, none⟩) (by show g1 < w3.heap.size; omega)).trans (HC4.out j hj)) ((hbB.cell (p := ⟨g1, len, none⟩) (by show g1 < w3.heap.size; omega)).trans H774.out)).mono ?_
    rintro e6 w6 ⟨rfl, hb6⟩
    go_wp2_with fail
    go_ret
    exact ⟨rfl, HB5.out.trans (hb6.mono HB5.out.size)⟩
end Go.Proofs.Ytlhbeaoffmohlaa
