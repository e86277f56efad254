/-
  What a row says of the laid variables, at the door and behind it.
-/
import Derived.Test.YtaighdppemnglaaGreatDoorGf7
import Derived.Test.YtaighdppemnglaaGreatDoorGf17
import Derived.Test.YtaighdppemnglaaGreatDoorTie
import Derived.Test.YtaighdppemnglaaGreatDoorCards
import Derived.ProofKit
import Derived.LaidMore
import Derived.LaidHandle
import Derived.OpenShut
import Derived.ShutString
import Derived.ChangeOld
import Derived.Stop.Joined
import Derived.Stop.LaidErr
import Derived.Lib.LaidTab
import Derived.SevenTiedAt
namespace Go.Proofs.YtaighdppemnglaaGreatDoor
open Go Go.ChangeShapes Go.WideShapes Go.ChangeAt Go.RowKit

abbrev laid7 : List (String × DataW Unit) := [("mailcoach/varint.lengths", Rows.laid_mailcoach_varint_lengths), ("mailcoach/frame.named", Rows.laid_mailcoach_frame_named)]
/-- The door's own heap meets the conditions. -/
theorem door_met7 (os : Os) (args : Array Value) : laidMetH Tryz.prog laid7 ((World.doorLaid Tryz.prog 400 os).forCall (fun _ _ => 0) ⟨#[], args, []⟩).memory :=
  laidMetH_of_parts3 (fuel := 8) (laidMet_of_run' 8 (by kernel_rfl) (by kernel_rfl)) (by kernel_rfl) (by kernel_rfl)

set_option maxRecDepth 100000 in
theorem laid_of7 {W : World} (h : laidMetH Tryz.prog laid7 W) : Lens W ∧ Named W := by
  replace h : laidMet Tryz.prog laid7 W := h
  have gL : Tryz.prog.globalNamed "mailcoach/varint.lengths" = some 1 := by kernel_rfl
  have gN : Tryz.prog.globalNamed "mailcoach/frame.named" = some 0 := by kernel_rfl
  refine ⟨?_, ?_⟩
  · have hT : Lib.TabIs Tryz.prog W "mailcoach/varint.lengths" .i64 [1, 2, 4, 8] := Lib.tabIs_of_head (k := .i64) (zs := [1, 2, 4, 8]) (n := 4) gL (show (Tryz.prog.globals[1]?).map (·.type) = some 177 by kernel_rfl) Tryz.underlying177 Tryz.underlying3 (by kernel_rfl) (by kernel_rfl) h
    exact ⟨hT.cell gL 0 (by decide), hT.cell gL 1 (by decide), hT.cell gL 2 (by decide), hT.cell gL 3 (by decide)⟩
  · have hT : Lib.TabIs Tryz.prog W "mailcoach/frame.named" .i64 [0, 4, 0, 68, 13, 9, 34, 51, 4, 5, 20, 4, 5, 56, 0] := Lib.tabIs_of_head (k := .i64) (zs := [0, 4, 0, 68, 13, 9, 34, 51, 4, 5, 20, 4, 5, 56, 0]) (n := 15) gN (show (Tryz.prog.globals[0]?).map (·.type) = some 168 by kernel_rfl) Tryz.underlying168 Tryz.underlying3 (by kernel_rfl) (by kernel_rfl) (laidMet.tail h)
    intro j hj
    have := hT.cell gN j hj
    rw [this]
    match j, hj with
    | 0, _ => rfl
    | 1, _ => rfl
    | 2, _ => rfl
    | 3, _ => rfl
    | 4, _ => rfl
    | 5, _ => rfl
    | 6, _ => rfl
    | 7, _ => rfl
    | 8, _ => rfl
    | 9, _ => rfl
    | 10, _ => rfl
    | 11, _ => rfl
    | 12, _ => rfl
    | 13, _ => rfl
    | 14, _ => rfl
set_option maxRecDepth 100000
section
variable {H : Type} {enc : TypeId × Value → H} {W : World} {base : Nat} {v : Value} {d : DataW H} {ps : List MemPlace}
theorem open_fs (hval : Value.okWide Tryz.prog W .any base 22 v) (h0 : DataW.Trod enc Tryz.prog W 0 (fun _ => true) true 22 v d ps) :
    ∃ q : FS, v = .slice q.a q.len q.cap ∧ q.Ok W ∧ ((∀ m ∈ d.weights Tryz.prog 22, m ≤ reachBytes) → q.len ≤ 140737488355328 ∧ ∀ j, j < q.len → (gf q.l j).data.len ≤ 140737488355328 ∧ (gf q.l j).ranges.len ≤ 140737488355328) := by
  obtain ⟨a0, len0, cap0, rfl⟩ := okWide_slice Tryz.underlying22 hval
  obtain ⟨fuel, hf⟩ := h0
  obtain ⟨q, hcs, h⟩ := open_fs7 hf
  refine ⟨q, ?_, h⟩
  have hcs' : [Value.slice a0 len0 cap0] = [Value.slice q.a q.len q.cap] := hcs
  exact List.head_eq_of_cons_eq hcs'
theorem open_sl (hval : Value.okWide Tryz.prog W .any base 26 v) (h0 : DataW.Trod enc Tryz.prog W 0 (fun _ => true) true 26 v d ps) :
    ∃ q : SL, v = .slice q.a q.len q.cap ∧ q.Ok W ∧ (0 < q.len → q.Told) ∧ ((∀ m ∈ d.weights Tryz.prog 26, m ≤ reachBytes) → q.len ≤ 140737488355328) := by
  obtain ⟨a0, len0, cap0, rfl⟩ := okWide_slice Tryz.underlying26 hval
  obtain ⟨fuel, hf⟩ := h0
  obtain ⟨q, hcs, h⟩ := open_sl7 hf
  refine ⟨q, ?_, h⟩
  have hcs' : [Value.slice a0 len0 cap0] = [Value.slice q.a q.len q.cap] := hcs
  exact List.head_eq_of_cons_eq hcs'
end
end Go.Proofs.YtaighdppemnglaaGreatDoor
