/-
  What the document's Sum, Mac and Label answer, in words of slices.
-/
import Derived.Test.YtlicflmpakkccaaGreatDoorGv12
import Derived.Test.YtlicflmpakkccaaGreatDoorGv22
import Derived.Test.YtlicflmpakkccaaGreatDoorGv13
import Derived.Test.YtlicflmpakkccaaGreatDoorGvShaRefSum
namespace Go.Proofs.YtlicflmpakkccaaGreatDoor
open Go Go.RowKit

theorem refLab_any (k : SL) (s : ByteArray) (n : Nat) (w : World) (hk : k.Ok w) (h1 : s.size ≤ 249) (h3 : n ≤ 8160) (h4 : k.len ≤ 1048576) :
    Calls Tryz.prog 32 #[.slice k.a k.len k.cap, .string s, .slice none 0 0, .int .i64 (n : Int)] w fun e w' => ∃ q : SL, e = .returned (.tuple #[.slice q.a q.len q.cap, .int .i64 0]) ∧ q.Ok w' ∧ q.b = lab k.b s n ∧ Below w.heap.size w w' := by
  refine refLabel_any k nilK s n w hk (nilK_ok w) h1 (by decide) h3 _ fun q w1 hq hk1 hqb hb1 => ?_
  have hql : q.len ≤ 1048479 := by rw [← hq.hb, hqb, infoL_length, bOf_length]; show s.size + 0 + 10 ≤ _; omega
  refine (refExpand_ok k q n w1 hk1 hq h3 h4 hql).mono fun e w' ⟨z, a1, a2, a3, a4⟩ => ?_
  rw [hqb] at a3
  exact ⟨_, _, _, _, a1, z, a1, a2, a3, hb1.trans (a4.mono hb1.size)⟩

theorem refSum_sl (q : SL) (w : World) (hq : q.Ok w) (hl : q.len ≤ 1048576) :
    Calls Tryz.prog 30 #[.slice q.a q.len q.cap] w fun e w' => e = .returned (.tuple #[.agg (bs (sumL q.b)), .int .i64 0]) ∧ Below w.heap.size w w' :=
  refSum_any q.g q.off q.a q.len q.cap q.b w hq.hb hl hq.nil hq.at_ hq.lt hq.cell
theorem refMac_sl (k b : SL) (w : World) (hk : k.Ok w) (hb : b.Ok w) (h1 : k.len ≤ 1048576) (h2 : b.len ≤ 1048512) :
    Calls Tryz.prog 88 #[.slice k.a k.len k.cap, .slice b.a b.len b.cap] w fun e w' => e = .returned (.tuple #[.agg (bs (macK (keyL k.b) b.b)), .int .i64 0]) ∧ Below w.heap.size w w' := by
  have h := refMacF_any k b w hk hb
  obtain ⟨e1, e2⟩ := macA_fits (k := k.b) (b := b.b) (by rw [hk.hb]; exact h1) (by rw [hb.hb]; exact h2)
  rw [e1, e2] at h
  exact h
end Go.Proofs.YtlicflmpakkccaaGreatDoor
