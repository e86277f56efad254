/-
  What with and fills answer; what Get has while the bits come.
-/
import Derived.Test.YtiecpkkklefjdaaGtHfNumbers
import Derived.Test.YtiecpkkklefjdaaGtHfPutP
import Derived.Test.YtiecpkkklefjdaaGtHfOwn
import Derived.Laws.IdiomStrings
import Derived.Lib.BufferRead
import Derived.Sort.BigQuietIn
namespace Go.Proofs.Ytiecpkkklefjdaa
open Go Go.RowKit Go.Maps Go.Shelf

theorem or_bit (v : Nat) (b : Bool) (hv : v < 2147483648) : bits .or .u32 ((2 * v : Nat) : Int) (b.toNat : Int) = ((2 * v + b.toNat : Nat) : Int) := by
  have hb : b.toNat ≤ 1 := by cases b <;> simp
  rw [u32_or _ _ (by omega) (by omega) (by omega) (by omega)]
  congr 1
  show 2 * v ||| b.toNat = _
  rw [show 2 * v = v <<< 1 by rw [Nat.shiftLeft_eq]; omega]
  rw [← Nat.shiftLeft_add_eq_or_of_lt (show b.toNat < 2 ^ 1 by omega)]
set_option maxRecDepth 20000 in
set_option maxHeartbeats 1000000 in
theorem with_any (n v : Nat) (b : Bool) (hn : n < 1000) (hv : v < 1073741824) (w : World) :
    Calls Try.prog 52 #[.agg #[.int .i64 (n : Int), .int .u32 (v : Int)], .int .u32 (b.toNat : Int)] w fun e w' => e = .returned (.agg #[.int .i64 ((n + 1 : Nat) : Int), .int .u32 ((2 * v + b.toNat : Nat) : Int)]) ∧ Below w.heap.size w w' := by
  have hb : b.toNat ≤ 1 := by cases b <;> simp
  have ho := or_bit v b (by omega)
  have e1 : ((2 * v : Nat) : Int) = (v : Int) * 2 := by omega
  rw [e1] at ho
  have HB := veil hb
  generalize b.toNat = x at *
  go_enter Try.func52, Try.ntmps52
  go_wp2
  refine bodyPost_ret (results_cell_row rfl _ _ (w.heap.size + 1) 81 _ (0, 0) _ rfl (Row.new1 _ _ _ _) Try.underlying81 rfl (by kernel_rfl)) rfl ⟨?_, ?_⟩
  · rw [show (v : Int) * 2 + (x : Int) = ((2 * v + x : Nat) : Int) by omega, show (n : Int) + 1 = ((n + 1 : Nat) : Int) by omega]
  · exact ((Below.refl _ w).alloc (Nat.le_refl _) _).alloc (by simp) _

def fillsB (n v : Nat) : Bool := decide (n < 8 ∧ v = 2 ^ n - 1)
set_option maxRecDepth 20000 in
set_option maxHeartbeats 1000000 in
theorem fills_any (n v : Nat) (hn : n < 1000) (w : World) :
    Calls Try.prog 53 #[.agg #[.int .i64 (n : Int), .int .u32 (v : Int)]] w fun e w' => e = .returned (.bool (fillsB n v)) ∧ Below w.heap.size w w' := by
  by_cases h8 : n < 8
  · have hd : decide ((n : Int) < 8) = true := by simp; omega
    have hc : n = 0 ∨ n = 1 ∨ n = 2 ∨ n = 3 ∨ n = 4 ∨ n = 5 ∨ n = 6 ∨ n = 7 := by omega
    rcases hc with rfl | rfl | rfl | rfl | rfl | rfl | rfl | rfl
    all_goals
      go_enter Try.func53, Try.ntmps53
      go_wp2_with fail
      go_quiet (fail)
      go_wp2_with fail
      go_ret
      refine ⟨?_, below_drewN ((Below.refl _ w).alloc (Nat.le_refl _) _) _⟩
      unfold fillsB
      refine congrArg (fun b => Ending.returned (Value.bool b)) (?_ : ((v : Int) == _) = _)
      rw [Bool.eq_iff_iff, beq_iff_eq, decide_eq_true_iff]
      constructor
      · intro h; exact ⟨by decide, by omega⟩
      · rintro ⟨_, h⟩; omega
  · have hd : decide ((n : Int) < 8) = false := by simp; omega
    go_enter Try.func53, Try.ntmps53
    go_wp2_with fail
    go_quiet (fail)
    go_wp2_with fail
    go_ret
    refine ⟨?_, below_drewN ((Below.refl _ w).alloc (Nat.le_refl _) _) _⟩
    unfold fillsB
    rw [decide_eq_false (fun h => h8 h.1)]
    rfl

/-- A text of bytes. -/
def strOf (t : List By) : ByteArray := ⟨(t.map fun c => UInt8.ofNat c.toNat).toArray⟩
theorem bOf_strOf (t : List By) : bOf (strOf t) = t := by
  unfold bOf strOf
  simp only
  rw [List.map_map]
  have : (fun c => BitVec.ofNat 8 (UInt8.toNat c)) ∘ (fun (c : By) => UInt8.ofNat c.toNat) = id := by
    funext c
    show BitVec.ofNat 8 (UInt8.ofNat c.toNat).toNat = c
    have h := c.isLt
    rw [UInt8.toNat_ofNat', Nat.mod_eq_of_lt h, BitVec.ofNat_toNat]
    simp
  rw [this, List.map_id]
theorem conv_own {w : World} {base : Nat} {v : Value} {t : List By} (h : w.ownsRow base 5 1 v t.length (vb t)) : (convert 22 9 v).run Try.prog w = .ok (.string (strOf t)) w := by
  rcases h.2 with ⟨rfl, h0⟩ | ⟨g, cap, cur, rfl, hg, hh, hn, _, _, _⟩
  · have : t = [] := List.eq_nil_of_length_eq_zero h0
    subst this
    exact Lib.run_convert_nil_bytes w _ _ 5 0 Try.underlying22 Try.underlying5 Try.underlying9
  · have := run_convert_bytes_back (P := Try.prog) w 22 9 5 ⟨g, 0, none⟩ cap (t.map fun c => UInt8.ofNat c.toNat) Try.underlying22 Try.underlying5 Try.underlying9 (fun j hj => by
      rw [List.length_map] at hj
      have := h.cells (g := g) rfl j _ (vb_get t j hj)
      rw [this]
      congr 2
      unfold v8 gb
      rw [List.getElem?_eq_getElem hj, List.getElem_map]
      simp)
    rw [List.length_map] at this
    exact this
theorem KeepY.grown {B : Nat} {st M : Nat → Prop} {W W' : World} {row : Option Nat} (h : W.grownBy W' row) (hr : ∀ g, row = some g → B ≤ g ∧ ¬ M g) : KeepY B st M W W' :=
  ⟨h.os, h.tape, h.output, h.size, fun k hk hc => h.block k hk (fun e => by
    have := hr k e.symm
    rcases hc with ⟨c, _⟩ | c
    · omega
    · exact this.2 c)⟩

/-- What Get has while the bits come. -/
structure GetI (w : World) (Kx m Tx Lx b6 : Nat) (B : List Bool) (j : Nat) (M : Nat → Prop) (W : World) : Prop where
  rs : Row W w.heap.size 9 #[.string ⟨#[]⟩]
  re : Row W (w.heap.size + 1) 25 #[.int .i64 0]
  rk : Row W Kx 88 #[.map (some m)]
  map : MapW W m Hf.sym 257
  st : ∃ t n v vt, Hf.runG (some ([], 0, 0)) (B.take j) = some (t, n, v) ∧ Row W Tx 22 #[vt] ∧ W.ownsRow (b6 + 2) 5 1 vt t.length (vb t) ∧ (∀ g, vt.ownBlock = some g → ¬ M g) ∧ Row W Lx 81 #[.int .i64 ((n : Nat) : Int), .int .u32 ((v : Nat) : Int)]
  lo : ∀ k, M k → b6 ≤ k
  size : b6 ≤ W.heap.size
  below : Below w.heap.size w W
/-- What it has when the word 256 was taken. -/
structure GetS (w : World) (b6 : Nat) (B : List Bool) (M : Nat → Prop) (W : World) : Prop where
  rs : Row W w.heap.size 9 #[.string ⟨#[]⟩]
  re : Row W (w.heap.size + 1) 25 #[.int .i64 5]
  no : Hf.runG (some ([], 0, 0)) B = none
  lo : ∀ k, M k → b6 ≤ k
  size : b6 ≤ W.heap.size
  below : Below w.heap.size w W
structure GetB (w : World) (Kx m Tx Lx b6 : Nat) : Prop where
  bk : w.heap.size + 1 < Kx ∧ Kx < b6
  bm : w.heap.size + 1 < m ∧ m < b6
  bt : w.heap.size + 1 < Tx ∧ Tx < b6
  bl : w.heap.size + 1 < Lx ∧ Lx < b6
  kt : Kx ≠ Tx
  kl : Kx ≠ Lx
  tl : Tx ≠ Lx
  mt : m ≠ Tx
  ml : m ≠ Lx
theorem GetI.keep {w A B : World} {Kx m Tx Lx b6 : Nat} {bs : List Bool} {j : Nat} {M : Nat → Prop} (h : GetI w Kx m Tx Lx b6 bs j M A) (hb : GetB w Kx m Tx Lx b6) (k : KeepP (fun k => k = b6 + 1) A B) : GetI w Kx m Tx Lx b6 bs j M B := by
  obtain ⟨t, n, v, vt, h1, h2, h3, h4, h5⟩ := h.st
  have hk := hb.bk
  have hm := hb.bm
  have ht := hb.bt
  have hl := hb.bl
  have hs := h.size
  have hks := k.size
  refine ⟨k.row h.rs (by omega), k.row h.re (by omega), k.row h.rk (by omega), h.map.same (k.block _ h.map.lt (by omega)), ⟨t, n, v, vt, h1, k.row h2 (by omega), own_blk h3 (fun g hg => ?_), h4, k.row h5 (by omega)⟩, h.lo, by omega, h.below.trans (k.below (fun q e => by omega) h.below.size)⟩
  have := h3.lt g hg
  exact k.block g this.2 (by omega)
theorem GetI.more {w A B : World} {Kx m Tx Lx b6 : Nat} {bs : List Bool} {j : Nat} {M : Nat → Prop} (h : GetI w Kx m Tx Lx b6 bs j M A) (hb : GetB w Kx m Tx Lx b6) (k : KeepM M A B) : GetI w Kx m Tx Lx b6 bs j (newM M A B) B := by
  obtain ⟨t, n, v, vt, h1, h2, h3, h4, h5⟩ := h.st
  have hk := hb.bk
  have hm := hb.bm
  have ht := hb.bt
  have hl := hb.bl
  have hs := h.size
  have hks := k.size
  have hlo := h.lo
  have hrow : ∀ {g : Nat} {ty : TypeId} {cs : Array Value}, Row A g ty cs → g < b6 → Row B g ty cs := fun hr hg => (k.block _ hr.lt (fun e => by have := hlo _ e; omega)).trans hr
  refine ⟨hrow h.rs (by omega), hrow h.re (by omega), hrow h.rk (by omega), h.map.same (k.block _ h.map.lt (fun e => by have := hlo _ e; omega)), ⟨t, n, v, vt, h1, hrow h2 (by omega), own_blk h3 (fun g hg => k.block g (h3.lt g hg).2 (h4 g hg)), fun g hg e => ?_, hrow h5 (by omega)⟩, fun q e => e.elim (hlo q) (fun e => by omega), by omega, h.below.trans ⟨k.os, k.tape, k.output, k.size, fun q hq => k.block q (by have := h.below.size; omega) (fun e => by have := hlo _ e; omega)⟩⟩
  have := h3.lt g hg
  exact e.elim (h4 g hg) (fun e => by omega)
theorem GetS.keep {w A B : World} {b6 : Nat} {bs : List Bool} {M : Nat → Prop} (h : GetS w b6 bs M A) (hb : w.heap.size + 1 < b6) (k : KeepP (fun k => k = b6 + 1) A B) : GetS w b6 bs M B :=
  ⟨k.row h.rs (by omega), k.row h.re (by omega), h.no, h.lo, by have := h.size; have := k.size; omega, h.below.trans (k.below (fun q e => by omega) h.below.size)⟩
theorem GetS.more {w A B : World} {b6 : Nat} {bs : List Bool} {M : Nat → Prop} (h : GetS w b6 bs M A) (hb : w.heap.size + 1 < b6) (k : KeepM M A B) : GetS w b6 bs (newM M A B) B := by
  have hlo := h.lo
  have hs := h.size
  have hks := k.size
  exact ⟨(k.block _ h.rs.lt (fun e => by have := hlo _ e; omega)).trans h.rs, (k.block _ h.re.lt (fun e => by have := hlo _ e; omega)).trans h.re, h.no, fun q e => e.elim (hlo q) (fun e => by omega), by omega, h.below.trans ⟨k.os, k.tape, k.output, k.size, fun q hq => k.block q (by have := h.below.size; omega) (fun e => by have := hlo _ e; omega)⟩⟩
def stGet (w : World) (Tx Lx : Nat) (k : Nat) : Prop := k = w.heap.size ∨ k = w.heap.size + 1 ∨ k = Tx ∨ k = Lx
end Go.Proofs.Ytiecpkkklefjdaa
