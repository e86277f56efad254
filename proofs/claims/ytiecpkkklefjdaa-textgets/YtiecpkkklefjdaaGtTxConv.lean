/-
  Texts and bytes, one out of the other. Written by mktxget.py.
-/
import Derived.Test.YtiecpkkklefjdaaGtTxPlain
import Derived.Test.YtiecpkkklefjdaaGtHfGetP
import Derived.Test.YtiecpkkklefjdaaGtChaSl
namespace Go.Proofs.Ytiecpkkklefjdaa
open Go Go.RowKit

theorem strOf_size (t : List By) : (strOf t).size = t.length := by
  rw [← bOf_length, bOf_strOf]
theorem strOf_bOf (s : ByteArray) : strOf (bOf s) = s := bOf_inj (bOf_strOf _)
theorem strOf_nil : strOf [] = ⟨#[]⟩ := rfl
theorem conv_sl {w : World} {q : SL} (hq : q.Ok w) : (convert 22 9 (.slice q.a q.len q.cap)).run Try.prog w = .ok (.string (strOf q.b)) w := by
  obtain ⟨ad, len, cap, g, off, b⟩ := q
  have hb : b.length = len := hq.hb
  cases ad with
  | none =>
    obtain ⟨h1, h2⟩ := hq.nil rfl
    simp only at h1 h2
    subst h1 h2
    obtain rfl : b = [] := List.eq_nil_of_length_eq_zero hb
    exact Lib.run_convert_nil_bytes w _ _ 5 0 Try.underlying22 Try.underlying5 Try.underlying9
  | some ad =>
    subst hb
    have := run_convert_bytes_back (P := Try.prog) w 22 9 5 ad cap (b.map fun c => UInt8.ofNat c.toNat) Try.underlying22 Try.underlying5 Try.underlying9 (fun j hj => by
      rw [List.length_map] at hj
      have e := hq.at_ (show 0 < b.length by omega)
      simp only at e
      injection e with e
      subst e
      rw [add_at, hq.cell j hj]
      congr 2
      unfold v8 gb
      rw [List.getElem?_eq_getElem hj, List.getElem_map]
      simp)
    rw [List.length_map] at this
    exact this
theorem lies_sl {w : World} {s : SL} (h : s.Ok w) : Vi.Lies w s.a (Tx.zs s.b) := by
  by_cases hp : 0 < s.len
  · refine .inr ⟨s.g, s.off, h.at_ hp, h.lt hp, fun j hj => ?_⟩
    rw [Tx.zs_length, h.hb] at hj
    rw [h.cell j hj, Tx.zs_gb s.b j (by rw [h.hb]; exact hj)]
  · refine .inl ?_
    have : s.b = [] := List.eq_nil_of_length_eq_zero (by have := h.hb; omega)
    rw [this]; rfl
end Go.Proofs.Ytiecpkkklefjdaa
