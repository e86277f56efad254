/-
  Out of KyLab, KySum.
-/
import Derived.Test.YtlicflmpakkccaaGreatDoorGv24
import Derived.Test.YtlicflmpakkccaaGreatDoorGv3
import Derived.Test.YtlicflmpakkccaaGreatDoorGv13
import Derived.Test.YtlicflmpakkccaaGreatDoorGvShaSumLim

/-! What hkdf.Label answers of a key and a name. -/
namespace Go.Proofs.YtlicflmpakkccaaGreatDoor
open Go Go.RowKit

def nilK : SL := ⟨none, 0, 0, 0, 0, []⟩
theorem nilK_ok (w : World) : nilK.Ok w := ⟨rfl, Nat.le_refl _, fun _ => ⟨rfl, rfl⟩, fun h => absurd h (Nat.lt_irrefl _), fun h => absurd h (Nat.lt_irrefl _), fun _ h => absurd h (Nat.not_lt_zero _)⟩

theorem lab_any (k : SL) (s : ByteArray) (n : Nat) (w : World) (hk : k.Ok w) (h1 : s.size ≤ 249) (h3 : n ≤ 8160) (h4 : k.len ≤ 1048576) :
    Calls Tryz.prog 28 #[.slice k.a k.len k.cap, .string s, .slice none 0 0, .int .i64 (n : Int)] w fun e w' => ∃ g, e = .returned (.tuple #[.slice (some ⟨g, 0, none⟩) n n, .int .i64 0]) ∧ w'.ownsRow w.heap.size 5 1 (.slice (some ⟨g, 0, none⟩) n n) n (vb (lab k.b s n)) ∧ Below w.heap.size w w' :=
  label_ok k nilK s n w hk (nilK_ok w) h1 (by decide) h3 h4
end Go.Proofs.YtlicflmpakkccaaGreatDoor

/-! What sha.Sum and hkdf.Extract answer, in words of slices. -/
namespace Go.Proofs.YtlicflmpakkccaaGreatDoor
open Go Go.RowKit

theorem sum_sl (q : SL) (w : World) (hq : q.Ok w) (hl : q.len ≤ 1048576) :
    Calls Tryz.prog 26 #[.slice q.a q.len q.cap] w fun e w' => e = .returned (.tuple #[.agg (bs (sumL q.b)), .int .i64 0]) ∧ Below w.heap.size w w' :=
  sum_any q.g q.off q.a q.len q.cap q.b w hq.hb hl hq.hcap hq.at_ hq.lt hq.cell
theorem macA_fits {k b : List By} (h1 : k.length ≤ 1048576) (h2 : b.length ≤ 1048512) : macA k b = macK (keyL k) b ∧ macE k b = 0 := by
  unfold macA macE
  rw [if_pos (show macFits k b from ⟨h1, h2⟩), if_pos (show macFits k b from ⟨h1, h2⟩)]
  exact ⟨rfl, rfl⟩
theorem ext_sl (k b : SL) (w : World) (hk : k.Ok w) (hb : b.Ok w) (h1 : k.len ≤ 1048576) (h2 : b.len ≤ 1048512) :
    Calls Tryz.prog 27 #[.slice k.a k.len k.cap, .slice b.a b.len b.cap] w fun e w' => e = .returned (.tuple #[.agg (bs (macK (keyL k.b) b.b)), .int .i64 0]) ∧ Below w.heap.size w w' := by
  have h := extract_any k b w hk hb
  obtain ⟨e1, e2⟩ := macA_fits (k := k.b) (b := b.b) (by rw [hk.hb]; exact h1) (by rw [hb.hb]; exact h2)
  rw [e1, e2] at h
  exact h
end Go.Proofs.YtlicflmpakkccaaGreatDoor
