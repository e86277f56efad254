/-
  What hkdf.Label answers of a key and a name.
-/
import Derived.Test.YtlicflmpakkccaaDoorGkHkLabel
import Derived.Test.YtlicflmpakkccaaDoorGkKyVec
namespace Go.Proofs.YtlicflmpakkccaaDoor
open Go Go.RowKit

def nilK : SL := ⟨none, 0, 0, 0, 0, []⟩
theorem nilK_ok (w : World) : nilK.Ok w := ⟨rfl, Nat.le_refl _, fun _ => ⟨rfl, rfl⟩, fun h => absurd h (Nat.lt_irrefl _), fun h => absurd h (Nat.lt_irrefl _), fun _ h => absurd h (Nat.not_lt_zero _)⟩

theorem lab_any (k : SL) (s : ByteArray) (n : Nat) (w : World) (hk : k.Ok w) (h1 : s.size ≤ 249) (h3 : n ≤ 8160) (h4 : k.len ≤ 1048576) :
    Calls Tryd.prog 16 #[.slice k.a k.len k.cap, .string s, .slice none 0 0, .int .i64 (n : Int)] w fun e w' => ∃ g, e = .returned (.tuple #[.slice (some ⟨g, 0, none⟩) n n, .int .i64 0]) ∧ w'.ownsRow w.heap.size 5 1 (.slice (some ⟨g, 0, none⟩) n n) n (vb (lab k.b s n)) ∧ Below w.heap.size w w' :=
  label_ok k nilK s n w hk (nilK_ok w) h1 (by decide) h3 h4
end Go.Proofs.YtlicflmpakkccaaDoor
