/-
  Numbers, credit and lists of pairs that came in.
-/
import Derived.Test.YtepkajaallcnmaaFlPlain
import Derived.Test.YtepkajaallcnmaaShaLiftA
import Derived.SizedLaws
import Derived.OpenShut
namespace Go.Proofs.Ytepkajaallcnmaa
open Go Go.ChangeShapes Go.WideShapes Go.ChangeAt Go.RowKit

section
variable {H : Type} {enc : TypeId × Value → H} {W : World} {base : Nat} {v : Value} {d : DataW H} {ps : List MemPlace}
set_option maxRecDepth 20000 in
theorem open_u14 (hval : Value.okWide Try.prog W .any base 22 v) (h0 : DataW.Trod enc Try.prog W 0 (fun _ => true) true 22 v d ps) : ∃ n : Nat, v = .int .u64 (n : Int) ∧ n < 18446744073709551616 := by
  obtain ⟨a, rfl, _, _, hw⟩ := open_int Try.underlying22 hval h0
  have hb := bounds_u64 hw
  exact ⟨a.toNat, by rw [Int.toNat_of_nonneg hb.1], by omega⟩
set_option maxRecDepth 20000 in
theorem open_u32 (hval : Value.okWide Try.prog W .any base 45 v) (h0 : DataW.Trod enc Try.prog W 0 (fun _ => true) true 45 v d ps) : ∃ n : Nat, v = .int .u32 (n : Int) ∧ n < 4294967296 := by
  obtain ⟨a, rfl, _, _, hw⟩ := open_int Try.underlying45 hval h0
  have hb := bounds_u32 hw
  exact ⟨a.toNat, by rw [Int.toNat_of_nonneg hb.1], by omega⟩
set_option maxRecDepth 20000 in
theorem open_u16 (hval : Value.okWide Try.prog W .any base 47 v) (h0 : DataW.Trod enc Try.prog W 0 (fun _ => true) true 47 v d ps) : ∃ n : Nat, v = .int .u16 (n : Int) ∧ n < 65536 := by
  obtain ⟨a, rfl, _, _, hw⟩ := open_int Try.underlying47 hval h0
  have hb := bounds_u16 hw
  exact ⟨a.toNat, by rw [Int.toNat_of_nonneg hb.1], by omega⟩
set_option maxRecDepth 20000 in
theorem open_u8 (hval : Value.okWide Try.prog W .any base 5 v) (h0 : DataW.Trod enc Try.prog W 0 (fun _ => true) true 5 v d ps) : ∃ n : Nat, v = .int .u8 (n : Int) ∧ n < 256 := by
  obtain ⟨a, rfl, _, _, hw⟩ := open_int Try.underlying5 hval h0
  have hb := bounds_u8 hw
  exact ⟨a.toNat, by rw [Int.toNat_of_nonneg hb.1], by omega⟩
set_option maxRecDepth 20000 in
theorem open_b14 (hval : Value.okWide Try.prog W .any base 4 v) (h0 : DataW.Trod enc Try.prog W 0 (fun _ => true) true 4 v d ps) : ∃ b : Bool, v = .bool b := by
  obtain ⟨b, rfl, _, _⟩ := open_bool Try.underlying4 hval h0
  exact ⟨b, rfl⟩
theorem open_u64 {fuel : Nat} {cs : List Value} {x : DataW H × List MemPlace} (hf : DataW.trod enc Try.prog W 0 (fun _ => true) true fuel 22 cs = some x) : ∃ n : Nat, cs = [.int .u64 (n : Int)] ∧ n < 18446744073709551616 := by
  obtain ⟨n, h1, _, h3⟩ := DataW.trod_int Try.underlying22 hf
  have hb := bounds_u64 h3
  exact ⟨n.toNat, by rw [h1, Int.toNat_of_nonneg hb.1], by omega⟩
theorem two_cells {l : List Value} {a b : Value} (h : l.length = 2) (h0 : (l.drop 0).take 1 = [a]) (h1 : (l.drop 1).take 1 = [b]) : l = [a, b] := by
  match l, h with
  | [x, y], _ => simp at h0 h1; rw [h0, h1]
set_option maxRecDepth 100000 in
theorem open_crd {fuel : Nat} {cs : List Value} {x : DataW H × List MemPlace} (hf : DataW.trod enc Try.prog W 0 (fun _ => true) true fuel 24 cs = some x) :
    ∃ r : Nat × Nat, cs = [.int .u64 (r.1 : Int), .int .u64 (r.2 : Int)] ∧ r.1 < 18446744073709551616 ∧ r.2 < 18446744073709551616 := by
  obtain ⟨xs, n, _, hxd, hlen, hxl, hfs⟩ := DataW.trod_struct Try.underlying24 hf
  have hl : Try.prog.cellsOf 24 = 2 := by kernel_rfl
  have c1 : Try.prog.cellsOf 22 = 1 := by kernel_rfl
  have e0 : DataW.trod enc Try.prog W 0 (fun _ => true) true n 22 (List.take (Try.prog.cellsOf 22) (List.drop 0 _)) = xs[0]? := hfs 0 _ rfl
  have e1 : DataW.trod enc Try.prog W 0 (fun _ => true) true n 22 (List.take (Try.prog.cellsOf 22) (List.drop 1 _)) = xs[1]? := hfs 1 _ rfl
  have hx : xs.length = 2 := hxl
  rw [c1, List.getElem?_eq_getElem (by omega)] at e0
  rw [c1, List.getElem?_eq_getElem (by omega)] at e1
  obtain ⟨n0, h0, b0⟩ := open_u64 e0
  obtain ⟨n1, h1, b1⟩ := open_u64 e1
  rw [hl] at hlen
  exact ⟨(n0, n1), two_cells hlen h0 h1, b0, b1⟩
set_option maxRecDepth 20000 in
theorem open_credit (hval : Value.okWide Try.prog W .any base 24 v) (h0 : DataW.Trod enc Try.prog W 0 (fun _ => true) true 24 v d ps) : ∃ x y : Nat, v = .agg (crd (x, y)) ∧ x < 18446744073709551616 ∧ y < 18446744073709551616 := by
  unfold Value.okWide at hval
  rw [Try.underlying24] at hval
  obtain ⟨cs, rfl, hsz, _⟩ := hval
  obtain ⟨fuel, hf⟩ := h0
  obtain ⟨r, hcs, h1, h2⟩ := open_crd hf
  refine ⟨r.1, r.2, ?_, h1, h2⟩
  have hcs' : cs.toList = [.int .u64 (r.1 : Int), .int .u64 (r.2 : Int)] := hcs
  congr 1
  apply Array.ext'
  exact hcs'
end
end Go.Proofs.Ytepkajaallcnmaa
