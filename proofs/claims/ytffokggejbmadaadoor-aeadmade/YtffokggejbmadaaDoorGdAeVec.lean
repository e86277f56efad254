/-
  Sealed bytes that the document fixes: no program in sight.
-/
import Derived.Test.YtffokggejbmadaaDoorGd4
import Derived.Test.YtffokggejbmadaaDoorGdChaVec
namespace Go.Proofs.YtffokggejbmadaaDoor
open Go

def vKey : List By := (List.range 32).map fun i => BitVec.ofNat 8 (128 + i)
def vNonce : List By := [7, 0, 0, 0, 64, 65, 66, 67, 68, 69, 70, 71]
def vBeside : List By := [80, 81, 82, 83, 192, 193, 194, 195, 196, 197, 198, 199]
def vPlain : List By := [76, 97, 100, 105, 101, 115, 32, 97, 110, 100, 32, 71, 101, 110, 116, 108, 101, 109, 101, 110, 32, 111, 102, 32, 116, 104, 101, 32, 99, 108, 97, 115, 115, 32, 111, 102, 32, 39, 57, 57, 58, 32, 73, 102, 32, 73, 32, 99, 111, 117, 108, 100, 32, 111, 102, 102, 101, 114, 32, 121, 111, 117, 32, 111, 110, 108, 121, 32, 111, 110, 101, 32, 116, 105, 112, 32, 102, 111, 114, 32, 116, 104, 101, 32, 102, 117, 116, 117, 114, 101, 44, 32, 115, 117, 110, 115, 99, 114, 101, 101, 110, 32, 119, 111, 117, 108, 100, 32, 98, 101, 32, 105, 116, 46]
def vHidden : List By := [211, 26, 141, 52, 100, 142, 96, 219, 123, 134, 175, 188, 83, 239, 126, 194, 164, 173, 237, 81, 41, 110, 8, 254, 169, 226, 181, 167, 54, 238, 98, 214, 61, 190, 164, 94, 140, 169, 103, 18, 130, 250, 251, 105, 218, 146, 114, 139, 26, 113, 222, 10, 158, 6, 11, 41, 5, 214, 165, 182, 126, 205, 59, 54, 146, 221, 189, 127, 45, 119, 139, 140, 152, 3, 174, 227, 40, 9, 27, 88, 250, 179, 36, 228, 250, 214, 117, 148, 85, 133, 128, 139, 72, 49, 215, 188, 63, 244, 222, 240, 142, 75, 122, 157, 229, 118, 210, 101, 134, 206, 198, 75, 97, 22]
def vTag : List By := [26, 225, 11, 89, 79, 9, 226, 106, 126, 144, 46, 203, 208, 96, 6, 145]
def vOnce : List By := [123, 172, 43, 37, 45, 180, 71, 175, 9, 182, 122, 85, 164, 233, 85, 132, 10, 225, 214, 115, 16, 117, 217, 235, 42, 147, 117, 120, 62, 213, 83, 255]
def vStr1 : List By := [159, 123, 233, 93, 1, 253, 64, 186, 21, 226, 143, 251, 54, 129, 10, 174, 193, 192, 136, 63, 9, 1, 110, 222, 221, 138, 208, 135, 85, 130, 3, 165, 78, 158, 203, 56, 172, 142, 94, 43, 184, 218, 178, 15, 250, 219, 82, 232, 117, 4, 178, 110, 190, 105, 109, 79, 96, 164, 133, 207, 17, 184, 27, 89]
def vStr2 : List By := [252, 177, 196, 95, 66, 25, 238, 172, 236, 106, 222, 195, 78, 102, 105, 120, 142, 219, 65, 196, 156, 163, 1, 225, 39, 224, 172, 171, 59, 68, 185, 207, 92, 134, 187, 149, 224, 107, 13, 242, 144, 26, 182, 69, 228, 171, 230, 34, 21, 56, 12, 3, 206, 53, 108, 215, 166, 118, 99, 251, 221, 239, 255, 100]
def vNone : List By := [156, 122, 151, 22, 129, 192, 176, 80, 246, 10, 12, 165, 3, 251, 167, 86]
set_option maxRecDepth 100000 in
theorem once_vec : (blockL vKey 0 vNonce).take 32 = vOnce := by rw [blockL_S]; decide +kernel
set_option maxRecDepth 100000 in
theorem str1_vec : blockL vKey 1 vNonce = vStr1 := by rw [blockL_S]; decide +kernel
set_option maxRecDepth 100000 in
theorem str2_vec : blockL vKey 2 vNonce = vStr2 := by rw [blockL_S]; decide +kernel
theorem cnt11 : cnt 1 1 = 2 := by decide
theorem sb_vec : sbTo vKey 1 vNonce 114 = vStr1 ++ vStr2.take 50 := by
  have h1 : vStr1.length = 64 := rfl
  have h2 : vStr2.length = 64 := rfl
  apply gb_ext
  · rw [sbTo_length, List.length_append, List.length_take, h1, h2]; rfl
  · intro p hp
    rw [sbTo_length] at hp
    rw [sbTo_get _ _ _ _ _ hp]
    unfold sby
    by_cases h : p < 64
    · rw [show p / 64 = 0 by omega, show p % 64 = p by omega, cnt_zero, str1_vec]
      unfold gb
      rw [List.getElem?_append_left (by omega)]
    · rw [show p / 64 = 1 by omega, show p % 64 = p - 64 by omega, cnt11, str2_vec]
      unfold gb
      rw [List.getElem?_append_right (by omega), h1, List.getElem?_take, if_pos (by omega)]
set_option maxRecDepth 100000 in
theorem hidden_vec : xorL vKey 1 vNonce vPlain = vHidden := by
  unfold xorL
  rw [show vPlain.length = 114 from rfl, sb_vec]
  decide +kernel
set_option maxRecDepth 100000 in
theorem tagged_vec : tagL vOnce (taggedL vBeside vHidden) = vTag := by decide +kernel
theorem seal_vec : sealL vKey vNonce vPlain vBeside = vHidden ++ vTag := by
  unfold sealL markL
  rw [hidden_vec, once_vec, tagged_vec]
set_option maxRecDepth 100000 in
theorem none_vec : tagL vOnce (taggedL [] (List.replicate 4 0)) = vNone := by decide +kernel
theorem none_mark : markL vKey vNonce (List.replicate 4 0) [] = vNone := by
  unfold markL
  rw [once_vec, none_vec]
theorem none_ne : vNone ≠ List.replicate 16 0 := by decide
end Go.Proofs.YtffokggejbmadaaDoor
