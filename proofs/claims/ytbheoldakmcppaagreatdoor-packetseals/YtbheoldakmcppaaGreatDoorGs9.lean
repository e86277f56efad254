/-
  Out of ShaLiftA, ChaMid, KyOpenU, PkDoor.
-/
import Derived.Test.YtbheoldakmcppaaGreatDoorGs1
import Derived.Test.YtbheoldakmcppaaGreatDoorRows
import Derived.ProofKit
import Derived.OpenShut
import Derived.ShutString
import Derived.ChangeOld
import Derived.Test.YtbheoldakmcppaaGreatDoorGs3
import Derived.Deep.MidRow
import Derived.Test.YtbheoldakmcppaaGreatDoorTie
import Derived.Test.YtbheoldakmcppaaGreatDoorCards
import Derived.LaidMore
import Derived.LaidHandle
import Derived.Stop.Joined
import Derived.Stop.LaidErr
import Derived.Lib.LaidTab
import Derived.SevenTiedAt

/-! From what a row says of an array that came in to the words and bytes of the walks. -/
namespace Go.Proofs.YtbheoldakmcppaaGreatDoor
open Go Go.ChangeShapes Go.WideShapes Go.ChangeAt Go.RowKit

theorem own : ownKnob Tryz.prog.godebug = none := by kernel_rfl
theorem laidOut : laidOutB Tryz.prog = true := by kernel_rfl

section
variable {H : Type} {enc : TypeId × Value → H} {P : Program} {w : World} {base : Nat} {spare : Nat → Bool} {held : Bool}

end
end Go.Proofs.YtbheoldakmcppaaGreatDoor

/-! A part of a row; cells that are bytes. -/
namespace Go.Proofs.YtbheoldakmcppaaGreatDoor
open Go Go.ChangeShapes Go.WideShapes Go.ChangeAt Go.RowKit

section
variable {P : Program} {a : Act} {o : Oper}
theorem run_mid (ty : TypeId) (x : Operand) (g off : Nat) (cs : Array Value) (d : TypeDesc) (ho : o.op = .load ty x) (hx : a.eval x = .pointer (some ⟨g, off, none⟩)) (hu : P.underlying ty = some d) (hd : d.isRow = true) (hi : (P.info? ty).map (·.size) = some cs.size) (W : World) (hc : W.rangeAt g off cs.toList) :
    (execOp a.eval o).run P W = .ok (.value (.agg cs)) W := by
  have h := run_loadAt_mid (P := P) W g off ty cs.toList d hc hu hd (by simpa using hi)
  unfold execOp
  simp only [ho, hx, Sem.run_bind, h, Result.andThen_ok, Sem.run_pure]
end

section
variable {H : Type} {enc : TypeId × Value → H} {P : Program} {w : World} {base : Nat} {spare : Nat → Bool} {held : Bool}
end
end Go.Proofs.YtbheoldakmcppaaGreatDoor

/-! Numbers that came in. -/
namespace Go.Proofs.YtbheoldakmcppaaGreatDoor
open Go Go.ChangeShapes Go.WideShapes Go.ChangeAt Go.RowKit

end Go.Proofs.YtbheoldakmcppaaGreatDoor

/-! What a row says of the laid variables, at the door and behind it. -/
namespace Go.Proofs.YtbheoldakmcppaaGreatDoor
open Go Go.ChangeShapes Go.WideShapes Go.ChangeAt Go.RowKit

abbrev laid4 : List (String × DataW Unit) := [("mailcoach/chacha.begin", Rows.laid_mailcoach_chacha_begin), ("mailcoach/chacha.quarters", Rows.laid_mailcoach_chacha_quarters), ("mailcoach/varint.lengths", Rows.laid_mailcoach_varint_lengths)]
theorem var_heap {P : Program} {w : World} {n : String} {g : Nat} {cs : Array Value} (hg : P.globalNamed n = some g) (h : w.var? P n = some cs) : ∃ t fr, w.heap[g]? = some (.cells cs t fr) := by
  simp only [World.var?, hg, Option.bind_some] at h
  split at h
  · rename_i c t fr hq
    obtain rfl := Option.some.inj h
    exact ⟨t, fr, hq⟩
  · cases h

theorem quads {l : List Value} (h : l.length = 32) {f : Nat → List Value} (hf : ∀ i, i < 8 → (l.drop (i * 4)).take 4 = f i) : l = f 0 ++ f 1 ++ f 2 ++ f 3 ++ f 4 ++ f 5 ++ f 6 ++ f 7 := by
  rw [← hf 0 (by omega), ← hf 1 (by omega), ← hf 2 (by omega), ← hf 3 (by omega), ← hf 4 (by omega), ← hf 5 (by omega), ← hf 6 (by omega), ← hf 7 (by omega)]
  have key : ∀ n, l.take (4 * n) ++ (l.drop (n * 4)).take 4 = l.take (4 * (n + 1)) := fun n => by
    rw [show 4 * (n + 1) = 4 * n + 4 by omega, List.take_add, Nat.mul_comm n 4]
  have k0 : (l.drop (0 * 4)).take 4 = l.take (4 * 1) := by simp
  rw [k0, key 1, key 2, key 3, key 4, key 5, key 6, key 7, List.take_of_length_le (by omega)]

set_option maxRecDepth 100000 in
theorem glob_of {W : World} (h : laidMetH Tryz.prog laid4 W) : Glob W := by
  replace h : laidMet Tryz.prog laid4 W := h
  refine ⟨?_, ?_⟩
  · have := Lib.tabIs_of_head (P := Tryz.prog) (name := "mailcoach/chacha.begin") (k := .u32) (zs := [1634760805, 857760878, 2036477234, 1797285236]) (g := 0) (t := 241) (e := 91) (n := 4) (by kernel_rfl) (by kernel_rfl) Tryz.underlying241 Tryz.underlying91 (by kernel_rfl) (by kernel_rfl) h
    exact var_heap (by kernel_rfl) this
  · obtain ⟨ps, ⟨g', t', cs, fuel, p, q, hg', ht', hvar, hd, _, _⟩, _⟩ := laidMet.tail h
    have hg : Tryz.prog.globalNamed "mailcoach/chacha.quarters" = some 1 := by kernel_rfl
    obtain rfl := Option.some.inj (hg.symm.trans hg')
    obtain rfl : 244 = t' := Option.some.inj ((show (Tryz.prog.globals[1]?).map (·.type) = some 244 by kernel_rfl).symm.trans ht')
    obtain ⟨xs, m, _, hx, hlen, hl, hel⟩ := DataW.trod_array Tryz.underlying244 hd
    have c32 : Tryz.prog.cellsOf 244 = 32 := by kernel_rfl
    have c4 : Tryz.prog.cellsOf 243 = 4 := by kernel_rfl
    have hxs : xs.map (·.1) = [Lib.tabData .i64 [0, 4, 8, 12], Lib.tabData .i64 [1, 5, 9, 13], Lib.tabData .i64 [2, 6, 10, 14], Lib.tabData .i64 [3, 7, 11, 15], Lib.tabData .i64 [0, 5, 10, 15], Lib.tabData .i64 [1, 6, 11, 12], Lib.tabData .i64 [2, 7, 8, 13], Lib.tabData .i64 [3, 4, 9, 14]] := by
      have := congrArg Prod.fst hx
      simp only [Rows.laid_mailcoach_chacha_quarters, DataW.agg.injEq] at this
      exact this.symm
    have hp : ∀ (i : Nat) (zs : List Int), i < 8 → (xs.map (·.1))[i]? = some (Lib.tabData .i64 zs) → (cs.toList.drop (i * 4)).take 4 = zs.map fun z => Value.int .i64 z := by
      intro i zs hi hz
      have h1 := hel i hi
      rw [List.getElem?_eq_getElem (by omega), c4] at h1
      have h2 : (xs[i]'(by omega)).1 = Lib.tabData .i64 zs := by
        rw [List.getElem?_map, List.getElem?_eq_getElem (by omega)] at hz
        exact Option.some.inj hz
      have h3 : xs[i]'(by omega) = (Lib.tabData .i64 zs, (xs[i]'(by omega)).2) := by rw [← h2]
      rw [h3] at h1
      exact Lib.cells_of_tab Tryz.underlying243 Tryz.underlying3 (by kernel_rfl) c4 h1
    have hc : cs = is QN := by
      apply Array.ext'
      rw [quads (l := cs.toList) (by rw [hlen, c32]) (f := fun i => (cs.toList.drop (i * 4)).take 4) (fun i _ => rfl)]
      rw [hp 0 [0, 4, 8, 12] (by omega) (by rw [hxs]; rfl), hp 1 [1, 5, 9, 13] (by omega) (by rw [hxs]; rfl), hp 2 [2, 6, 10, 14] (by omega) (by rw [hxs]; rfl), hp 3 [3, 7, 11, 15] (by omega) (by rw [hxs]; rfl),
        hp 4 [0, 5, 10, 15] (by omega) (by rw [hxs]; rfl), hp 5 [1, 6, 11, 12] (by omega) (by rw [hxs]; rfl), hp 6 [2, 7, 8, 13] (by omega) (by rw [hxs]; rfl), hp 7 [3, 4, 9, 14] (by omega) (by rw [hxs]; rfl)]
      rfl
    rw [hc] at hvar
    exact var_heap hg hvar

abbrev laid6 : List (String × DataW Unit) := [("math/bits.deBruijn32tab", Rows.laid_math_bits_deBruijn32tab), ("math/bits.deBruijn64tab", Rows.laid_math_bits_deBruijn64tab), ("internal/strconv.uint64pow10", Rows.laid_internal_strconv_uint64pow10), ("mailcoach/chacha.begin", Rows.laid_mailcoach_chacha_begin), ("mailcoach/chacha.quarters", Rows.laid_mailcoach_chacha_quarters), ("mailcoach/varint.lengths", Rows.laid_mailcoach_varint_lengths)]
theorem door_met6 (os : Os) (args : Array Value) : laidMetH Tryz.prog laid6 ((World.doorLaid Tryz.prog 400 os).forCall (fun _ _ => 0) ⟨#[], args, []⟩).memory :=
  laidMetH_of_parts3 (fuel := 8) (laidMet_of_run' 8 (by kernel_rfl) (by kernel_rfl)) (by kernel_rfl) (by kernel_rfl)
set_option maxRecDepth 100000 in
theorem glob_of6 {W : World} (h : laidMetH Tryz.prog laid6 W) : Glob W := by
  replace h : laidMet Tryz.prog laid6 W := h
  exact glob_of (laidMet.tail (laidMet.tail (laidMet.tail h)))
end Go.Proofs.YtbheoldakmcppaaGreatDoor
