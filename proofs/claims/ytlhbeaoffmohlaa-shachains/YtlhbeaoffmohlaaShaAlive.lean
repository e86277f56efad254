/-
  The law's alive: three sums that the document fixes.
-/
import Derived.Test.YtlhbeaoffmohlaaShaSum
import Derived.Test.YtlhbeaoffmohlaaShaRefPlain
import Derived.Lib.ConvBytes
namespace Go.Proofs.Ytlhbeaoffmohlaa
open Go Go.RowKit

/-- The bytes of a text. -/
def bOf (s : ByteArray) : List By := s.data.toList.map fun c => BitVec.ofNat 8 c.toNat
theorem bOf_length (s : ByteArray) : (bOf s).length = s.size := by
  unfold bOf
  rw [List.length_map, Array.length_toList]
  rfl
theorem bOf_get (s : ByteArray) (j : Nat) (h : j < s.size) : ((s.data.toList.getD j 0).toNat : Int) = v8 (gb (bOf s) j) := by
  have h' : j < s.data.toList.length := by rw [Array.length_toList]; exact h
  unfold v8 gb bOf
  rw [List.getElem?_map, List.getElem?_eq_getElem h', List.getD_eq_getElem?_getD, List.getElem?_eq_getElem h']
  simp only [Option.getD_some, Option.map_some, BitVec.toNat_ofNat]
  have := (s.data.toList[j]'h').toNat_lt
  omega

/-- Four bytes of a number of 32 bits, joined again. -/
theorem join4 (X : Int) (h0 : 0 ≤ X) (h1 : X ≤ 4294967295) : bits .or .u32 (bits .or .u32 (bits .or .u32 (X / 16777216 % 256 * 16777216) (X / 65536 % 256 * 65536)) (X / 256 % 256 * 256)) (X % 256) = X := by
  have e1 : bits .or .u32 (X / 16777216 % 256 * 16777216) (X / 65536 % 256 * 65536) = X / 16777216 % 256 * 16777216 + X / 65536 % 256 * 65536 := by
    rw [u32_or _ _ (by omega) (by omega) (by omega) (by omega), nat_join 24 _ _ (by omega) (by omega)]; omega
  have e2 : bits .or .u32 (X / 16777216 % 256 * 16777216 + X / 65536 % 256 * 65536) (X / 256 % 256 * 256) = X / 16777216 % 256 * 16777216 + X / 65536 % 256 * 65536 + X / 256 % 256 * 256 := by
    rw [u32_or _ _ (by omega) (by omega) (by omega) (by omega), nat_join 16 _ _ (by omega) (by omega)]; omega
  rw [e1, e2, u32_or _ _ (by omega) (by omega) (by omega) (by omega), nat_join 8 _ _ (by omega) (by omega)]
  omega
theorem byte_div (X : Wd) : v8 (byteOf X 0) = u X / 16777216 % 256 ∧ v8 (byteOf X 1) = u X / 65536 % 256 ∧ v8 (byteOf X 2) = u X / 256 % 256 ∧ v8 (byteOf X 3) = u X % 256 := by
  refine ⟨?_, ?_, ?_, ?_⟩
  · rw [← v8_byteOf, ← wsr]; rfl
  · rw [← v8_byteOf, ← wsr]; rfl
  · rw [← v8_byteOf, ← wsr]; rfl
  · rw [← v8_byteOf, ← wsr]; simp

/-- The first word of a sum. -/
def word0 (b : List By) : Wd := gw (chain HW (blkTo b (nb b))) 0
theorem sumL_four (b : List By) (j : Nat) (h : j < 4) : gb (sumL b) j = byteOf (word0 b) j := by
  unfold gb sumL
  rw [sumB_get _ j (by omega), show j / 4 = 0 by omega, show j % 4 = j by omega]
  rfl

set_option maxRecDepth 20000 in
set_option maxHeartbeats 400000 in
theorem begins_yes (s : ByteArray) (x : Wd) (w : World) (hs : s.size ≤ 100) (hx : word0 (bOf s) = x) :
    Calls Try.prog 27 #[.string s, .int .u32 (u x)] w fun e w' => e = .returned (.bool true) ∧ Below w.heap.size w w' := by
  have hcv := Lib.run_convert_string_bytes (P := Try.prog) w 9 22 5 s Try.underlying9 Try.underlying22 Try.underlying5
  have HX := veil hx
  clear hx
  obtain ⟨W0, hW0⟩ : ∃ W0, W0 = Lib.bytesWorld w 5 s := ⟨_, rfl⟩
  have hc : ∀ j : Nat, j < s.size → W0.cell? ⟨w.heap.size, 0 + j, none⟩ = some (.int .u8 (v8 (gb (bOf s) j))) := fun j hj => by
    rw [hW0, Nat.zero_add, Lib.bytesWorld_cell w 5 s j hj, bOf_get s j hj]
  have hbel0 : Below w.heap.size w W0 := by
    rw [hW0]
    exact ⟨rfl, rfl, rfl, by rw [Lib.bytesWorld_size]; omega, fun k hk => Lib.bytesWorld_at_old w 5 s k hk⟩
  have hsz0 : W0.heap.size = w.heap.size + 1 := by rw [hW0, Lib.bytesWorld_size]
  rw [← hW0] at hcv
  have hcap : s.size ≤ grownCap w s.size 0 5 := grownCap_ge ..
  generalize grownCap w s.size 0 5 = C at *
  clear hW0
  go_enter Try.func27, Try.ntmps27
  go_wp2_with fail
  refine (sum_any w.heap.size 0 _ _ _ (bOf s) W0 (bOf_length s) (by omega) hcap (fun _ => rfl) (fun _ => by omega) hc).mono ?_
  rintro e1 w1 ⟨rfl, hb1⟩
  clear hc hcv
  have hbel1 := hbel0.trans (hb1.mono hbel0.size)
  clear hb1 hbel0
  have R : Row (w1.alloc (.cells (bs (sumL (bOf s))) 24)) w1.heap.size 24 (bs (sumL (bOf s))) := Row.new _ _ _
  have c0 := R.cellB (j := 0) (by rw [sumL_length]; decide)
  have c1 := R.cellB (j := 1) (by rw [sumL_length]; decide)
  have c2 := R.cellB (j := 2) (by rw [sumL_length]; decide)
  have c3 := R.cellB (j := 3) (by rw [sumL_length]; decide)
  obtain ⟨b0, b1, b2, b3⟩ := byte_div x
  rw [sumL_four _ 0 (by decide), HX.out, b0] at c0
  rw [sumL_four _ 1 (by decide), HX.out, b1] at c1
  rw [sumL_four _ 2 (by decide), HX.out, b2] at c2
  rw [sumL_four _ 3 (by decide), HX.out, b3] at c3
  clear b0 b1 b2 b3
  have hx0 := u_nn x
  have hx1 := u_le x
  have j4 := join4 (u x) hx0 hx1
  generalize u x = X at *
  have hbl : Below w.heap.size w (w1.alloc (.cells (bs (sumL (bOf s))) 24)) := hbel1.alloc hbel1.size _
  have hsz : (bs (sumL (bOf s))).size = 32 := by rw [bs_size, sumL_length]
  generalize hcs : bs (sumL (bOf s)) = cs at *
  go_wp2_with (first
    | (with_reducible (show wpList _ _ _ (⟨_, Op.alloc 24, _, _, _, _⟩ :: _) _ _)
       refine alloc_row rfl 24 rfl (bs z32) (by kernel_rfl) ?_)
    | (with_reducible (show wpList _ _ _ (⟨_, Op.store 24 _ _, _, _, _, _⟩ :: _) _ _)
       refine store_new (w := w1) (by rfl) 24 _ _ (by rfl) w1.heap.size cs (by rfl) (by rfl) 24 (bs z32) (by rfl) 32 (by kernel_rfl) (by rfl) hsz (hcs ▸ bs_one _) ?_))
  go_ret
  exact ⟨rfl, hbl⟩

/-- The three texts. -/
def t0 : ByteArray := { data := #[] }
def t1 : ByteArray := { data := #[97, 98, 99] }
def t2 : ByteArray := { data := #[97, 98, 99, 100, 98, 99, 100, 101, 99, 100, 101, 102, 100, 101, 102, 103, 101, 102, 103, 104, 102, 103, 104, 105, 103, 104, 105, 106, 104, 105, 106, 107, 105, 106, 107, 108, 106, 107, 108, 109, 107, 108, 109, 110, 108, 109, 110, 111, 109, 110, 111, 112, 110, 111, 112, 113] }
set_option maxRecDepth 100000 in
theorem w_t0 : word0 (bOf t0) = 3820012610#32 := by decide +kernel
set_option maxRecDepth 100000 in
theorem w_t1 : word0 (bOf t1) = 3128432319#32 := by decide +kernel
set_option maxRecDepth 100000 in
theorem w_t2 : word0 (bOf t2) = 613247585#32 := by decide +kernel
theorem begins_t0 (w : World) : Calls Try.prog 27 #[.string { data := #[] }, .int .u32 3820012610] w fun e w' => e = .returned (.bool true) ∧ Below w.heap.size w w' := begins_yes t0 3820012610#32 w (by decide) w_t0
theorem begins_t1 (w : World) : Calls Try.prog 27 #[.string { data := #[97, 98, 99] }, .int .u32 3128432319] w fun e w' => e = .returned (.bool true) ∧ Below w.heap.size w w' := begins_yes t1 3128432319#32 w (by decide) w_t1
theorem begins_t2 (w : World) : Calls Try.prog 27 #[.string { data := #[97, 98, 99, 100, 98, 99, 100, 101, 99, 100, 101, 102, 100, 101, 102, 103, 101, 102, 103, 104, 102, 103, 104, 105, 103, 104, 105, 106, 104, 105, 106, 107, 105, 106, 107, 108, 106, 107, 108, 109, 107, 108, 109, 110, 108, 109, 110, 111, 109, 110, 111, 112, 110, 111, 112, 113] }, .int .u32 613247585] w fun e w' => e = .returned (.bool true) ∧ Below w.heap.size w w' := begins_yes t2 613247585#32 w (by decide) w_t2

theorem alive_any (w : World) : Calls Try.prog 13 #[] w fun e w' => e = .returned (.bool true) ∧ Below w.heap.size w w' := by
  go_enter Try.func13, Try.ntmps13
  go_wp2_with fail
  refine (begins_t0 w).mono ?_
  rintro e1 w1 ⟨rfl, hb1⟩
  go_wp2_with fail
  refine (begins_t1 w1).mono ?_
  rintro e2 w2 ⟨rfl, hb2⟩
  go_wp2_with fail
  refine (begins_t2 w2).mono ?_
  rintro e3 w3 ⟨rfl, hb3⟩
  go_wp2_with fail
  go_ret
  exact ⟨rfl, (hb1.trans (hb2.mono hb1.size)).trans (hb3.mono (Nat.le_trans hb1.size hb2.size))⟩
end Go.Proofs.Ytlhbeaoffmohlaa
