/-
  A key and a nonce in one; what aead's smaller functions answer.
-/
import Derived.Test.YtffokggejbmadaaDoorGd4
import Derived.Test.YtffokggejbmadaaDoorGd5
import Derived.Test.YtffokggejbmadaaDoorGdChaXorL
import Derived.Great.FillDense
namespace Go.Proofs.YtffokggejbmadaaDoor
open Go Go.RowKit

/-- The cells of a key and a nonce. -/
def lockC (key nonce : List By) : Array Value := bs (key ++ nonce)
def z12 : List By := List.replicate 12 0
def z32b : List By := List.replicate 32 0
def z44 : List By := List.replicate 44 0
theorem lock_key {W : World} {g : Nat} {t : TypeId} {key nonce : List By} (h : Row W g t (bs (key ++ nonce))) : W.rangeAt g 0 (bs key).toList := by
  intro j v hv
  rw [Nat.zero_add, h.cell]
  have e : (bs (key ++ nonce)) = bs key ++ bs nonce := by simp [bs]
  have hj : j < (bs key).size := by
    rcases Nat.lt_or_ge j (bs key).size with hj | hj
    · exact hj
    · rw [List.getElem?_eq_none (by simpa using hj)] at hv; cases hv
  rw [e, Array.getElem?_append_left hj]
  simpa using hv
theorem lock_nonce {W : World} {g : Nat} {t : TypeId} {key nonce : List By} (h : Row W g t (bs (key ++ nonce))) (hk : key.length = 32) : W.rangeAt g 32 (bs nonce).toList := by
  intro j v hv
  have e : (bs (key ++ nonce)) = bs key ++ bs nonce := by simp [bs]
  rw [h.cell, e, Array.getElem?_append_right (by rw [bs_size, hk]; omega), bs_size, hk, show 32 + j - 32 = j by omega]
  simpa using hv
theorem lock_whole {W : World} {g : Nat} {t : TypeId} {cs : Array Value} (h : Row W g t cs) : W.rangeAt g 0 cs.toList := by
  intro j v hv
  rw [Nat.zero_add, h.cell]
  simpa using hv
theorem fold_arr (off : Nat) (l cells : Array Value) : (l.zipIdx.foldl (fun cs (x : Value × Nat) => cs.setIfInBounds (off + x.2) x.1) cells) = ((l.toList.zipIdx 0).foldl (fun cs (x : Value × Nat) => cs.setIfInBounds (off + x.2) x.1) cells) := by
  rw [← Array.foldl_toList, Array.toList_zipIdx]
theorem lock_fill (key nonce : List By) (hk : key.length = 32) (hn : nonce.length = 12) : Instr.fill (fun i => (#[(0, 32), (32, 12)] : Array (Nat × Nat))[i]?) (bs z44) [(0, .agg (bs key)), (1, .agg (bs nonce))] = some (bs (key ++ nonce)) := by
  have e : (bs (key ++ nonce)) = bs key ++ bs nonce := by simp [bs]
  have z : (bs z44).size = 44 := rfl
  have ck : (Value.agg (bs key)).cells.size = 32 := by show (bs key).size = 32; rw [bs_size, hk]
  have cn : (Value.agg (bs nonce)).cells.size = 12 := by show (bs nonce).size = 12; rw [bs_size, hn]
  obtain ⟨a1, a2⟩ := Great.foldl_set 0 (bs key).toList 0 (bs z44)
  obtain ⟨b1, b2⟩ := Great.foldl_set 32 (bs nonce).toList 0 (((bs key).toList.zipIdx 0).foldl (fun cs (x : Value × Nat) => cs.setIfInBounds (0 + x.2) x.1) (bs z44))
  rw [Instr.fill, show (#[(0, 32), (32, 12)] : Array (Nat × Nat))[0]? = some (0, 32) from rfl]
  simp only [ck, z]
  rw [if_neg (by decide), Instr.fill, show (#[(0, 32), (32, 12)] : Array (Nat × Nat))[1]? = some (32, 12) from rfl]
  simp only [cn]
  rw [fold_arr, fold_arr]
  simp only [show (Value.agg (bs key)).cells = bs key from rfl, show (Value.agg (bs nonce)).cells = bs nonce from rfl]
  rw [if_neg (by rw [a1, z]; decide), Instr.fill]
  congr 1
  apply Array.ext_getElem?
  intro k
  rw [b2, a2, a1, z]
  have lk : (bs key).toList.length = 32 := by rw [Array.length_toList, bs_size, hk]
  have ln : (bs nonce).toList.length = 12 := by rw [Array.length_toList, bs_size, hn]
  rw [lk, ln, e]
  by_cases h1 : k < 32
  · rw [if_neg (by omega), if_pos (by omega), Array.getElem?_append_left (by rw [bs_size, hk]; exact h1)]
    simp
  · rw [Array.getElem?_append_right (by rw [bs_size, hk]; omega), bs_size, hk]
    by_cases h2 : k < 44
    · rw [if_pos (by omega)]
      simp
    · rw [if_neg (by omega), if_neg (by omega), Array.getElem?_eq_none (by rw [z]; omega), Array.getElem?_eq_none (by rw [bs_size, hn]; omega)]
theorem lock_built (key nonce : List By) (hk : key.length = 32) (hn : nonce.length = 12) : Tryd.prog.built 44 [(0, .agg (bs key)), (1, .agg (bs nonce))] = some (bs (key ++ nonce)) :=
  Eq.trans (by kernel_rfl) (lock_fill key nonce hk hn)

theorem missing_any (n : Nat) (hn : n ≤ 140737488355328) (w : World) :
    Calls Tryd.prog 42 #[.int .i64 (n : Int)] w fun e w' => e = .returned (.int .i64 ((pad16 n : Nat) : Int)) ∧ w' = w := by
  have h1 : ((16 : Int) - (n : Int) % 16) % 16 = ((pad16 n : Nat) : Int) := by unfold pad16; omega
  go_enter Tryd.func42, Tryd.ntmps42
  go_wp2
  go_ret
  refine ⟨?_, rfl⟩
  rw [h1]
  rfl
end Go.Proofs.YtffokggejbmadaaDoor
