/-
  Plain arithmetic: no number's bytes begin another number's.
-/
import Derived.Test.YtmgmejbjekojnaaDoorPutMath
import Derived.Test.YtmgmejbjekojnaaDoorPrefMath
namespace Go.Proofs.YtmgmejbjekojnaaDoor
open Go.RowKit

theorem take_all {xs ys : List Int} (_hl : xs.length ≤ ys.length) (h : xs.take xs.length = ys.take xs.length) : ∃ r, ys = xs ++ r := by
  refine ⟨ys.drop xs.length, ?_⟩
  rw [List.take_length] at h
  have e := List.take_append_drop xs.length ys
  rw [← h] at e
  exact e.symm

theorem putL_begins (n m : Int) (h0 : 0 ≤ n) (h1 : n < 4611686018427387904) (g0 : 0 ≤ m) (g1 : m < 4611686018427387904) (hl : (putL n).length ≤ (putL m).length) (h : (putL n).take (putL n).length = (putL m).take (putL n).length) : n = m := by
  obtain ⟨r, hr⟩ := take_all hl h
  have e1 := getR_put n r h0 h1
  have e2 := getR_put m [] g0 g1
  rw [List.append_nil, hr, e1] at e2
  exact congrArg Prod.fst e2

theorem putP_begins {first b M n m : Int} (hn : MayPut first b M n) (hm : MayPut first b M m) (hl : (putP first M n).length ≤ (putP first M m).length) (h : (putP first M n).take (putP first M n).length = (putP first M m).take (putP first M n).length) : n = m := by
  obtain ⟨r, hr⟩ := take_all hl h
  have e1 := getP_put hn r
  have e2 := getP_put hm []
  rw [List.append_nil, hr, e1] at e2
  exact congrArg (fun x => x.2.1) e2

/-- Two lists, cut at the shorter one's end. -/
theorem cut_same {xs ys : List Int} {k : Nat} {n m : Int} (hk : (xs.length ≤ ys.length ∧ k = xs.length) ∨ (ys.length ≤ xs.length ∧ k = ys.length))
    (h1 : xs.length ≤ ys.length → xs.take xs.length = ys.take xs.length → n = m) (h2 : ys.length ≤ xs.length → ys.take ys.length = xs.take ys.length → m = n) (h3 : n = m → xs = ys) :
    decide (xs.take k = ys.take k) = (n == m) := by
  by_cases e : n = m
  · rw [h3 e]; simp [e]
  · have : ¬ xs.take k = ys.take k := by
      intro h
      rcases hk with ⟨hl, rfl⟩ | ⟨hl, rfl⟩
      · exact e (h1 hl h)
      · exact e (h2 hl h.symm).symm
    simp [e, this]
end Go.Proofs.YtmgmejbjekojnaaDoor
