/-
  A greeting's cells.
-/
import Derived.Test.YtjccjlhnjihfjaaDoorGh8
import Derived.Test.YtjccjlhnjihfjaaDoorGh2
namespace Go.Proofs.YtjccjlhnjihfjaaDoor
open Go
abbrev qv (l : He.Q4) : List Value := [.int .u64 (l.1 : Int), .int .u64 (l.2.1 : Int), .int .u64 (l.2.2.1 : Int), .int .u64 (l.2.2.2 : Int)]
def heL (h : He.H) : List Value := .int .u8 (v8 h.k) :: (vb h.nn ++ (qv h.l ++ vb h.pf))
def heC (h : He.H) : Array Value := (heL h).toArray
theorem heL_length {h : He.H} (hf : h.Fine) : (heL h).length = 69 := by
  simp only [heL, List.length_cons, List.length_append, vb_length, hf.n32, hf.p32, List.length_nil]
theorem heC_size {h : He.H} (hf : h.Fine) : (heC h).size = 69 := by
  rw [heC, List.size_toArray, heL_length hf]
end Go.Proofs.YtjccjlhnjihfjaaDoor
