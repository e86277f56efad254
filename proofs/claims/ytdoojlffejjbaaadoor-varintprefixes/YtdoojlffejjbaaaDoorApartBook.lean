/-
  The lists that a Book of lists of bytes was told are apart.
-/
import Derived.Test.YtdoojlffejjbaaaDoorEmpty
namespace Go.Proofs.YtdoojlffejjbaaaDoor
open Go.RowKit

set_option maxRecDepth 20000 in
set_option maxHeartbeats 4000000 in
theorem apart_book (S B m : Nat) (V : Value) (E : Nat → Value) (N : Nat → Nat) (X : Nat → List Value) (w0 W : World) (hm0 : 0 < m) (hm : m ≤ 1000) (hN : ∀ i, i < m → N i ≤ 1000000) (bk : Bk S B m m V E N X w0 W) :
    Calls Tryd.prog 12 #[.pointer (some ⟨B, 0, none⟩)] W fun e w' => e = .returned (.bool true) ∧ Below S w0 w' := by
  obtain ⟨h, cap, sep, st⟩ := bk.st hm0
  go_enter Tryd.func12, Tryd.ntmps12
  have HF : Hid (Calls Tryd.prog 23 #[.pointer (some ⟨B, 0, none⟩)] W fun e w' => e = .returned (.tuple #[]) ∧ St S B h m cap E N (fun _ => .slice none 0 0) (fun i => List.replicate (N i) (mark i)) w0 w') := fill_any S B h m cap E N _ X w0 W hm hN (fun _ _ => rfl) sep st
  clear st bk
  go_wp2_with fail
  refine HF.out.mono ?_
  rintro e1 w1 ⟨rfl, st1⟩
  clear HF
  have HM : Hid (∀ j, 2 ≤ j → j < 13 → w1.cell? ⟨B, j, none⟩ = some (.slice none 0 0)) := st1.em
  have HS1 : Hid (St S B h m cap E N (fun _ => .slice none 0 0) (fun i => List.replicate (N i) (mark i)) w0 w1) := st1
  clear st1
  go_wp2_with fail
  refine (fillNumber_none B w1 (HM.out 2 (by decide) (by decide))).mono ?_
  rintro e2 wx ⟨rfl, hwx⟩
  obtain rfl := hwx.symm
  go_wp2_with fail
  refine (fillInt_none B w1 (HM.out 3 (by decide) (by decide))).mono ?_
  rintro e2 wx ⟨rfl, hwx⟩
  obtain rfl := hwx.symm
  go_wp2_with fail
  refine (fillText_none B w1 (HM.out 4 (by decide) (by decide))).mono ?_
  rintro e2 wx ⟨rfl, hwx⟩
  obtain rfl := hwx.symm
  go_wp2_with fail
  refine (fillBlob_none B w1 (HM.out 5 (by decide) (by decide))).mono ?_
  rintro e2 wx ⟨rfl, hwx⟩
  obtain rfl := hwx.symm
  go_wp2_with fail
  refine (fillRange_none B w1 (HM.out 6 (by decide) (by decide))).mono ?_
  rintro e2 wx ⟨rfl, hwx⟩
  obtain rfl := hwx.symm
  go_wp2_with fail
  refine (fillFrame_none B w1 (HM.out 7 (by decide) (by decide))).mono ?_
  rintro e2 wx ⟨rfl, hwx⟩
  obtain rfl := hwx.symm
  go_wp2_with fail
  refine (fillField_none B w1 (HM.out 8 (by decide) (by decide))).mono ?_
  rintro e2 wx ⟨rfl, hwx⟩
  obtain rfl := hwx.symm
  go_wp2_with fail
  refine (fillMessage_none B w1 (HM.out 9 (by decide) (by decide))).mono ?_
  rintro e2 wx ⟨rfl, hwx⟩
  obtain rfl := hwx.symm
  go_wp2_with fail
  refine (fillRule_none B w1 (HM.out 10 (by decide) (by decide))).mono ?_
  rintro e2 wx ⟨rfl, hwx⟩
  obtain rfl := hwx.symm
  go_wp2_with fail
  refine (fillEvent_none B w1 (HM.out 11 (by decide) (by decide))).mono ?_
  rintro e2 wx ⟨rfl, hwx⟩
  obtain rfl := hwx.symm
  go_wp2_with fail
  refine (fillReply_none B w1 (HM.out 12 (by decide) (by decide))).mono ?_
  rintro e2 wx ⟨rfl, hwx⟩
  obtain rfl := hwx.symm
  go_wp2_with fail
  refine (grow_any S B h m cap E N _ w0 w1 hm hN (fun _ _ => rfl) sep HS1.out).mono ?_
  rintro e3 w3 ⟨rfl, L, st3, gr3⟩
  clear HM HS1
  have HM : Hid (∀ j, 2 ≤ j → j < 13 → w3.cell? ⟨B, j, none⟩ = some (.slice none 0 0)) := st3.em
  have HS3 : Hid (St S B h m cap E N L (fun i => List.replicate (N i) (mark i)) w0 w3) := st3
  have HG3 : Hid (Gr S B h m m E N L w3) := gr3
  clear st3 gr3
  go_wp2_with fail
  refine (growNumber_none B w3 (HM.out 2 (by decide) (by decide))).mono ?_
  rintro e2 wx ⟨rfl, hwx⟩
  obtain rfl := hwx.symm
  go_wp2_with fail
  refine (growInt_none B w3 (HM.out 3 (by decide) (by decide))).mono ?_
  rintro e2 wx ⟨rfl, hwx⟩
  obtain rfl := hwx.symm
  go_wp2_with fail
  refine (growText_none B w3 (HM.out 4 (by decide) (by decide))).mono ?_
  rintro e2 wx ⟨rfl, hwx⟩
  obtain rfl := hwx.symm
  go_wp2_with fail
  refine (growBlob_none B w3 (HM.out 5 (by decide) (by decide))).mono ?_
  rintro e2 wx ⟨rfl, hwx⟩
  obtain rfl := hwx.symm
  go_wp2_with fail
  refine (growRange_none B w3 (HM.out 6 (by decide) (by decide))).mono ?_
  rintro e2 wx ⟨rfl, hwx⟩
  obtain rfl := hwx.symm
  go_wp2_with fail
  refine (growFrame_none B w3 (HM.out 7 (by decide) (by decide))).mono ?_
  rintro e2 wx ⟨rfl, hwx⟩
  obtain rfl := hwx.symm
  go_wp2_with fail
  refine (growField_none B w3 (HM.out 8 (by decide) (by decide))).mono ?_
  rintro e2 wx ⟨rfl, hwx⟩
  obtain rfl := hwx.symm
  go_wp2_with fail
  refine (growMessage_none B w3 (HM.out 9 (by decide) (by decide))).mono ?_
  rintro e2 wx ⟨rfl, hwx⟩
  obtain rfl := hwx.symm
  go_wp2_with fail
  refine (growRule_none B w3 (HM.out 10 (by decide) (by decide))).mono ?_
  rintro e2 wx ⟨rfl, hwx⟩
  obtain rfl := hwx.symm
  go_wp2_with fail
  refine (growEvent_none B w3 (HM.out 11 (by decide) (by decide))).mono ?_
  rintro e2 wx ⟨rfl, hwx⟩
  obtain rfl := hwx.symm
  go_wp2_with fail
  refine (growReply_none B w3 (HM.out 12 (by decide) (by decide))).mono ?_
  rintro e2 wx ⟨rfl, hwx⟩
  obtain rfl := hwx.symm
  go_wp2_with fail
  refine (look_any S B h m cap E N L w0 w3 hm hN HS3.out HG3.out).mono ?_
  rintro e4 w4 ⟨rfl, hg4⟩
  have HM4 : Hid (∀ j, 2 ≤ j → j < 13 → w4.cell? ⟨B, j, none⟩ = some (.slice none 0 0)) := fun j h1 h2 => hg4.cell (HM.out j h1 h2) (by simp)
  have HB4 : Hid (Below S w0 w4) := HS3.out.below.grown hg4 HS3.out.sS (fun k e => by cases e)
  clear HM HS3 HG3 hg4
  go_wp2_with fail
  refine (lookNumber_none B w4 (HM4.out 2 (by decide) (by decide))).mono ?_
  rintro e2 wx ⟨rfl, hwx⟩
  obtain rfl := hwx.symm
  go_wp2_with fail
  refine (lookInt_none B w4 (HM4.out 3 (by decide) (by decide))).mono ?_
  rintro e2 wx ⟨rfl, hwx⟩
  obtain rfl := hwx.symm
  go_wp2_with fail
  refine (lookText_none B w4 (HM4.out 4 (by decide) (by decide))).mono ?_
  rintro e2 wx ⟨rfl, hwx⟩
  obtain rfl := hwx.symm
  go_wp2_with fail
  refine (lookBlob_none B w4 (HM4.out 5 (by decide) (by decide))).mono ?_
  rintro e2 wx ⟨rfl, hwx⟩
  obtain rfl := hwx.symm
  go_wp2_with fail
  refine (lookRange_none B w4 (HM4.out 6 (by decide) (by decide))).mono ?_
  rintro e2 wx ⟨rfl, hwx⟩
  obtain rfl := hwx.symm
  go_wp2_with fail
  refine (lookFrame_none B w4 (HM4.out 7 (by decide) (by decide))).mono ?_
  rintro e2 wx ⟨rfl, hwx⟩
  obtain rfl := hwx.symm
  go_wp2_with fail
  refine (lookField_none B w4 (HM4.out 8 (by decide) (by decide))).mono ?_
  rintro e2 wx ⟨rfl, hwx⟩
  obtain rfl := hwx.symm
  go_wp2_with fail
  refine (lookMessage_none B w4 (HM4.out 9 (by decide) (by decide))).mono ?_
  rintro e2 wx ⟨rfl, hwx⟩
  obtain rfl := hwx.symm
  go_wp2_with fail
  refine (lookRule_none B w4 (HM4.out 10 (by decide) (by decide))).mono ?_
  rintro e2 wx ⟨rfl, hwx⟩
  obtain rfl := hwx.symm
  go_wp2_with fail
  refine (lookEvent_none B w4 (HM4.out 11 (by decide) (by decide))).mono ?_
  rintro e2 wx ⟨rfl, hwx⟩
  obtain rfl := hwx.symm
  go_wp2_with fail
  refine (lookReply_none B w4 (HM4.out 12 (by decide) (by decide))).mono ?_
  rintro e2 wx ⟨rfl, hwx⟩
  obtain rfl := hwx.symm
  go_wp2_with fail
  go_ret
  exact ⟨rfl, HB4.out⟩
end Go.Proofs.YtdoojlffejjbaaaDoor
