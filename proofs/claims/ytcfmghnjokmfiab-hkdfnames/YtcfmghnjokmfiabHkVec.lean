/-
  Bytes that the document fixes: no program in sight.
-/
import Derived.Test.YtcfmghnjokmfiabHkInfo
namespace Go.Proofs.Ytcfmghnjokmfiab
open Go

def jefe : List By := [74, 101, 102, 101]
def what : List By := [119, 104, 97, 116, 32, 100, 111, 32, 121, 97, 32, 119, 97, 110, 116, 32, 102, 111, 114, 32, 110, 111, 116, 104, 105, 110, 103, 63]
def salt : List By := [56, 118, 44, 247, 245, 89, 52, 179, 77, 23, 154, 230, 164, 200, 12, 173, 204, 187, 127, 10]
def dcid : List By := [131, 148, 200, 240, 62, 81, 87, 8]
def ivL : List By := [250, 4, 75, 47, 66, 163, 253, 59, 70, 251, 37, 92]
def inT : ByteArray := { data := #[99, 108, 105, 101, 110, 116, 32, 105, 110] }
def ivT : ByteArray := { data := #[113, 117, 105, 99, 32, 105, 118] }
def keyV : List By := [125, 181, 223, 6, 231, 166, 158, 67, 36, 150, 173, 237, 176, 8, 81, 146, 53, 149, 34, 21, 150, 174, 42, 233, 251, 129, 21, 193, 233, 237, 10, 68]
def cliV : List By := [192, 12, 241, 81, 202, 91, 224, 117, 237, 14, 191, 181, 200, 3, 35, 196, 45, 107, 125, 182, 120, 129, 40, 154, 244, 0, 143, 31, 108, 53, 122, 234]

set_option maxRecDepth 100000 in
theorem vec_jefe : macK (keyL jefe) what = [91, 220, 193, 70, 191, 96, 117, 78, 106, 4, 36, 38, 8, 149, 117, 199, 90, 0, 63, 8, 157, 39, 57, 131, 157, 236, 88, 185, 100, 236, 56, 67] := by decide +kernel
set_option maxRecDepth 100000 in
theorem vec_key : macK (keyL salt) dcid = keyV := by decide +kernel
set_option maxRecDepth 100000 in
theorem vec_cli : expandL (keyL keyV) (infoL (bOf inT) [] 32) 32 = cliV := by decide +kernel
set_option maxRecDepth 100000 in
theorem vec_iv : expandL (keyL cliV) (infoL (bOf ivT) [] 12) 12 = ivL := by decide +kernel
theorem row_jefe : (#[.int .u8 74, .int .u8 101, .int .u8 102, .int .u8 101] : Array Value) = bs jefe := by kernel_rfl
theorem row_what : (#[.int .u8 119, .int .u8 104, .int .u8 97, .int .u8 116, .int .u8 32, .int .u8 100, .int .u8 111, .int .u8 32, .int .u8 121, .int .u8 97, .int .u8 32, .int .u8 119, .int .u8 97, .int .u8 110, .int .u8 116, .int .u8 32, .int .u8 102, .int .u8 111, .int .u8 114, .int .u8 32, .int .u8 110, .int .u8 111, .int .u8 116, .int .u8 104, .int .u8 105, .int .u8 110, .int .u8 103, .int .u8 63] : Array Value) = bs what := by kernel_rfl
theorem row_salt : (#[.int .u8 56, .int .u8 118, .int .u8 44, .int .u8 247, .int .u8 245, .int .u8 89, .int .u8 52, .int .u8 179, .int .u8 77, .int .u8 23, .int .u8 154, .int .u8 230, .int .u8 164, .int .u8 200, .int .u8 12, .int .u8 173, .int .u8 204, .int .u8 187, .int .u8 127, .int .u8 10] : Array Value) = bs salt := by kernel_rfl
theorem row_dcid : (#[.int .u8 131, .int .u8 148, .int .u8 200, .int .u8 240, .int .u8 62, .int .u8 81, .int .u8 87, .int .u8 8] : Array Value) = bs dcid := by kernel_rfl
theorem row_iv : (#[.int .u8 250, .int .u8 4, .int .u8 75, .int .u8 47, .int .u8 66, .int .u8 163, .int .u8 253, .int .u8 59, .int .u8 70, .int .u8 251, .int .u8 37, .int .u8 92] : Array Value) = bs ivL := by kernel_rfl
end Go.Proofs.Ytcfmghnjokmfiab
