/-
  Parts of a slice of bytes.
-/
import Derived.Test.YtiecpkkklefjdaaRows
import Derived.Test.YtiecpkkklefjdaaGtChaSl
namespace Go.Proofs.Ytiecpkkklefjdaa
open Go Go.RowKit

/-- From one place to another. -/
theorem cut_both (s : SL) (w : World) (h : s.Ok w) (lo hi : Nat) (h1 : lo ≤ hi) (h2 : hi ≤ s.len) : ∃ c : SL, (∀ W, (Instr.sliceAt 22 (.slice s.a s.len s.cap) (some (.int .i64 (lo : Int))) (some (.int .i64 (hi : Int))) none).run Try.prog W = .ok (.slice c.a c.len c.cap) W) ∧
    (c.len = hi - lo ∧ c.b = (s.b.take hi).drop lo) ∧ (∀ W, s.Ok W → c.Ok W) ∧ c.g = s.g := by
  have hcap := h.hcap
  have hb := h.hb
  have hlen : ((s.b.take hi).drop lo).length = hi - lo := by rw [List.length_drop, List.length_take]; omega
  cases ha : s.a with
  | none =>
    obtain ⟨e1, e2⟩ := h.nil ha
    obtain rfl : hi = 0 := by omega
    obtain rfl : lo = 0 := by omega
    refine ⟨⟨none, 0, 0, s.g, s.off, _⟩, fun W => ?_, ⟨rfl, rfl⟩, fun W _ => ⟨by simp, Nat.le_refl _, fun _ => ⟨rfl, rfl⟩, fun p => absurd p (Nat.lt_irrefl _), fun p => absurd p (Nat.lt_irrefl _), fun _ p => absurd p (Nat.not_lt_zero _)⟩, rfl⟩
    simp [Instr.sliceAt, Instr.slice, Instr.sliceBounds, Instr.sliceBound, asIntOf, run_underlying Try.underlying22, e1, e2]
  | some ad =>
    refine ⟨⟨some (if s.cap = lo then ad else ad.add lo), hi - lo, s.cap - lo, s.g, s.off + lo, (s.b.take hi).drop lo⟩, fun W => ?_, ⟨rfl, rfl⟩, fun W hW => ⟨hlen, by show hi - lo ≤ s.cap - lo; omega, (fun e => by cases e), fun p => ?_, fun p => hW.lt (by have : 0 < hi - lo := p; omega), fun j hj => ?_⟩, rfl⟩
    · simp [Instr.sliceAt, Instr.slice, Instr.sliceBounds, Instr.sliceBound, asIntOf, run_underlying Try.underlying22, show hi ≤ s.cap by omega, h1]
      split <;> rfl
    · have p' : 0 < hi - lo := p
      have e := hW.at_ (by omega)
      rw [ha] at e
      injection e with e
      subst e
      show some (if s.cap = lo then _ else _) = _
      rw [if_neg (by omega), Addr.add_mid]
    · have hj' : j < hi - lo := hj
      have := hW.cell (lo + j) (by omega)
      show W.cell? ⟨s.g, s.off + lo + j, none⟩ = some (.int .u8 (v8 (gb ((s.b.take hi).drop lo) j)))
      rw [Nat.add_assoc, this]
      unfold gb
      rw [List.getElem?_drop, List.getElem?_take, if_pos (by omega)]
theorem cut_lo (s : SL) (w : World) (h : s.Ok w) (lo : Nat) (h1 : lo ≤ s.len) : ∃ c : SL, (∀ W, (Instr.sliceAt 22 (.slice s.a s.len s.cap) (some (.int .i64 (lo : Int))) none none).run Try.prog W = .ok (.slice c.a c.len c.cap) W) ∧
    (c.len = s.len - lo ∧ c.b = s.b.drop lo) ∧ (∀ W, s.Ok W → c.Ok W) ∧ c.g = s.g := by
  obtain ⟨c, h2, h3, h4, h5⟩ := cut_both s w h lo s.len h1 (Nat.le_refl _)
  refine ⟨c, fun W => ?_, ⟨h3.1, ?_⟩, h4, h5⟩
  · rw [← h2 W]
    have hcap := h.hcap
    cases s.a <;> simp [Instr.sliceAt, Instr.slice, Instr.sliceBounds, Instr.sliceBound, asIntOf, run_underlying Try.underlying22, hcap]
  · rw [h3.2, ← h.hb, List.take_length]
theorem cut_hi (s : SL) (w : World) (h : s.Ok w) (hi : Nat) (h1 : hi ≤ s.len) : ∃ c : SL, (∀ W, (Instr.sliceAt 22 (.slice s.a s.len s.cap) none (some (.int .i64 (hi : Int))) none).run Try.prog W = .ok (.slice c.a c.len c.cap) W) ∧
    (c.len = hi ∧ c.b = s.b.take hi) ∧ (∀ W, s.Ok W → c.Ok W) ∧ c.g = s.g := by
  obtain ⟨c, h2, h3, h4, h5⟩ := cut_both s w h 0 hi (Nat.zero_le _) h1
  refine ⟨c, fun W => ?_, ⟨h3.1, h3.2⟩, h4, h5⟩
  rw [← h2 W]
  have hcap := h.hcap
  cases s.a <;> simp [Instr.sliceAt, Instr.slice, Instr.sliceBounds, Instr.sliceBound, asIntOf, run_underlying Try.underlying22]
end Go.Proofs.Ytiecpkkklefjdaa
