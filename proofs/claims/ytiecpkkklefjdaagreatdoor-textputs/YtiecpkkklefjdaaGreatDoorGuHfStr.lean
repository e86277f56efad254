/-
  The bytes of a text.
-/
import Derived.Test.YtiecpkkklefjdaaGreatDoorRows
import Derived.Test.YtiecpkkklefjdaaGreatDoorGuHfTools
import Derived.Test.YtiecpkkklefjdaaGreatDoorGuHfTab
import Derived.Test.YtiecpkkklefjdaaGreatDoorGuHfLoop
namespace Go.Proofs.YtiecpkkklefjdaaGreatDoor
open Go Go.RowKit

def bOf (s : ByteArray) : List By := s.data.toList.map fun c => BitVec.ofNat 8 c.toNat
theorem bOf_length (s : ByteArray) : (bOf s).length = s.size := by
  unfold bOf
  rw [List.length_map, Array.length_toList]
  rfl
theorem bOf_get (s : ByteArray) (j : Nat) (h : j < s.size) : ((s.data.toList.getD j 0).toNat : Int) = v8 (gb (bOf s) j) := by
  have h' : j < s.data.toList.length := by rw [Array.length_toList]; exact h
  unfold v8 gb bOf
  rw [List.getElem?_map, List.getElem?_eq_getElem h', List.getD_eq_getElem?_getD, List.getElem?_eq_getElem h']
  simp only [Option.map_some, Option.getD_some, BitVec.toNat_ofNat]
  have := (s.data.toList[j]).toNat_lt
  omega
theorem bOf_inj {s t : ByteArray} (h : bOf s = bOf t) : s = t := by
  obtain ⟨⟨s⟩⟩ := s
  obtain ⟨⟨t⟩⟩ := t
  unfold bOf at h
  simp only at h
  have : s = t := (List.map_inj_right (fun x y e => by
    have h1 := congrArg BitVec.toNat e
    simp only [BitVec.toNat_ofNat] at h1
    have h2 := x.toNat_lt
    have h3 := y.toNat_lt
    exact UInt8.toNat_inj.1 (by omega))).1 h
  rw [this]
theorem bOf_append (s t : ByteArray) : bOf (s ++ t) = bOf s ++ bOf t := by
  unfold bOf
  rw [ByteArray.data_append, Array.toList_append, List.map_append]
theorem run_strIx {P : Program} {t : TypeId} (ht : P.underlying t = some .string) (s : ByteArray) (k : Nat) (h : k < s.size) (W : World) : (Instr.index t (.string s) (.int .i64 (k : Int))).run P W = .ok (.int .u8 (v8 (gb (bOf s) k))) W := by
  have e : s[k]? = some s[k] := by simp [h]
  have h3 : v8 (gb (bOf s) k) = (s[k].toNat : Int) := by
    rw [← bOf_get s k h, List.getD_eq_getElem?_getD, List.getElem?_eq_getElem (by rw [Array.length_toList]; exact h)]
    rfl
  rw [h3]
  simp [Instr.index, asIntOf, run_underlying ht, h]
/-- The bits of the first so many bytes. -/
theorem txt_take (b : List By) {k : Nat} (h : k < b.length) : Hf.txt (b.take (k + 1)) = Hf.txt (b.take k) ++ Hf.wb (gb b k).toNat := by
  rw [List.take_add_one, Hf.txt_append]
  congr 1
  unfold gb
  rw [List.getElem?_eq_getElem h]
  exact Hf.txt_one _
end Go.Proofs.YtiecpkkklefjdaaGreatDoor
