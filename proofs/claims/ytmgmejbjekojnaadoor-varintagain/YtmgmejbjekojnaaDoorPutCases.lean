/-
  What PutPrefix refuses, and the rest.
-/
import Derived.Test.YtmgmejbjekojnaaDoorPutAny
import Derived.Test.YtmgmejbjekojnaaDoorPrefMath
namespace Go.Proofs.YtmgmejbjekojnaaDoor
open Go.RowKit

/-- It may be put, or it is refused. -/
theorem putp_cases (first b n : Int) (f0 : 0 ≤ first) (f1 : first ≤ 255) (n0 : 0 ≤ n) : (∃ M, MayPut first b M n) ∨
    ∀ w, Calls Tryd.prog 16 #[.int .u8 first, .int .i64 b, .int .u64 n] w fun e w' => e = .returned (.tuple #[.slice none 0 0, .int .i64 1]) ∧ w' = w := by
  by_cases hb : 1 ≤ b ∧ b ≤ 8
  · by_cases hn : n ≤ 4611686018427387903
    · obtain ⟨M, hM⟩ := IsMask.of b hb.1 hb.2
      by_cases hf : first % (M + 1) = 0
      · exact .inl ⟨M, hM, f0, f1, hf, n0, hn⟩
      · exact .inr fun w => putp_first first b M n w hM f0 f1 hn hf
    · exact .inr fun w => putp_large first b n w hb.1 hb.2 (by omega)
  · exact .inr fun w => putp_bits first b n w (by omega)

theorem getPV_of {M : Int} {zs : List Int} {a x k e : Int} (h : getP M zs = (a, x, k, e)) : getPV M zs = .tuple #[.int .u8 a, .int .u64 x, .int .i64 k, .int .i64 e] := by unfold getPV; rw [h]

end Go.Proofs.YtmgmejbjekojnaaDoor
