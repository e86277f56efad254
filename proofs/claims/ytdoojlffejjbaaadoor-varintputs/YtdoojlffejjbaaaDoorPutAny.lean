/-
  What Put and PutPrefix answer, in one word each: a row of their own, with the bytes of the number.
-/
import Derived.Test.YtdoojlffejjbaaaDoorPut
import Derived.Test.YtdoojlffejjbaaaDoorPutPrefix
import Derived.Test.YtdoojlffejjbaaaDoorSame
namespace Go.Proofs.YtdoojlffejjbaaaDoor
open Go.RowKit

/-- A row of bytes of the call's own, all of it taken. -/
def Owns (base : Nat) (w : World) (g len cap : Nat) (zs : List Int) : Prop :=
  zs.length = len ∧ w.ownsRow base 5 1 (.slice (some ⟨g, 0, none⟩) len cap) len (zs.map (Value.int .u8))

theorem Owns.lies {base : Nat} {w : World} {g len cap : Nat} {zs : List Int} (h : Owns base w g len cap zs) : Lies w (some ⟨g, 0, none⟩) zs := by
  obtain ⟨h1, h2⟩ := h
  obtain ⟨_, h4⟩ := h2.lt g rfl
  refine .inr ⟨g, 0, rfl, h4, fun j hj => ?_⟩
  rw [Nat.zero_add, h2.cellAt j (by omega), List.getElem?_map]
  simp [hj]

theorem Owns.cap {base : Nat} {w : World} {g len cap : Nat} {zs : List Int} (h : Owns base w g len cap zs) : len ≤ cap := by
  rcases h.2.2 with ⟨e, _⟩ | ⟨g', cap', cur, e, _, _, h4, _⟩
  · cases e
  · cases e; exact h4

theorem Owns.step {base : Nat} {w w' : World} {g len cap : Nat} {zs : List Int} (h : Owns base w g len cap zs) (hb : Below w.heap.size w w') : Owns base w' g len cap zs := by
  obtain ⟨h1, h2, h3⟩ := h
  refine ⟨h1, h2, ?_⟩
  rcases h3 with ⟨e, _⟩ | ⟨g', cap', cur, e, h5, h6, h7⟩
  · cases e
  · exact .inr ⟨g', cap', cur, e, h5, (hb.block g' (Array.getElem?_eq_some_iff.1 h6).1).trans h6, h7⟩

theorem putL_len (n : Int) : 1 ≤ (putL n).length ∧ (putL n).length ≤ 8 := by
  unfold putL
  repeat (first | split | simp)

theorem own_lit (w : World) (zs : List Int) (h : zs.length ≤ maxLen) : Owns w.heap.size (w.alloc (.cells (zs.map (Value.int .u8)).toArray 5)) w.heap.size zs.length zs.length zs := by
  refine ⟨rfl, ?_⟩
  have := World.ownsRow_lit (base := w.heap.size) (e := 5) (size := 1) w (zs.map (Value.int .u8)).toArray zs.length (Nat.le_refl _) h (by simp)
  simpa using this

theorem put_own (n : Int) (w : World) (h0 : 0 ≤ n) (h1 : n < 4611686018427387904) (hL : Lens w) :
    Calls Tryd.prog 8 #[.int .u64 n] w fun e w' => ∃ g, e = .returned (.tuple #[.slice (some ⟨g, 0, none⟩) (putL n).length (putL n).length, .int .i64 0]) ∧ Owns w.heap.size w' g (putL n).length (putL n).length (putL n) ∧ Below w.heap.size w w' := by
  have hm : (putL n).length ≤ maxLen := by have := putL_len n; unfold maxLen; omega
  have ho := own_lit w (putL n) hm
  have hB : Below w.heap.size w (w.alloc (.cells ((putL n).map (Value.int .u8)).toArray 5)) := (Below.refl _ w).alloc (Nat.le_refl _) _
  by_cases c1 : n < 64
  · have e : putL n = [n] := by unfold putL; rw [if_pos c1]
    rw [e] at ho hB ⊢
    exact (put_1 n w h0 c1 hL).mono fun e' w' ⟨a1, a2⟩ => ⟨_, a1, by rw [a2]; exact ho, by rw [a2]; exact hB⟩
  by_cases c2 : n < 16384
  · have e : putL n = [64 + n / 256, n % 256] := by unfold putL; rw [if_neg c1, if_pos c2]
    rw [e] at ho hB ⊢
    exact (put_2 n w (by omega) c2 hL).mono fun e' w' ⟨a1, a2⟩ => ⟨_, a1, by rw [a2]; exact ho, by rw [a2]; exact hB⟩
  by_cases c3 : n < 1073741824
  · have e : putL n = [128 + n / 16777216, n / 65536 % 256, n / 256 % 256, n % 256] := by unfold putL; rw [if_neg c1, if_neg c2, if_pos c3]
    rw [e] at ho hB ⊢
    exact (put_4 n w (by omega) c3 hL).mono fun e' w' ⟨a1, a2⟩ => ⟨_, a1, by rw [a2]; exact ho, by rw [a2]; exact hB⟩
  · have e : putL n = [192 + n / 72057594037927936, n / 281474976710656 % 256, n / 1099511627776 % 256, n / 4294967296 % 256, n / 16777216 % 256, n / 65536 % 256, n / 256 % 256, n % 256] := by unfold putL; rw [if_neg c1, if_neg c2, if_neg c3]
    rw [e] at ho hB ⊢
    exact (put_8 n w (by omega) h1 hL).mono fun e' w' ⟨a1, a2⟩ => ⟨_, a1, by rw [a2]; exact ho, by rw [a2]; exact hB⟩

theorem putP_len (first M n : Int) : 1 ≤ (putP first M n).length ∧ (putP first M n).length ≤ 11 := by
  unfold putP
  split
  · simp
  · have := sev_len 9 (n - M); simp only [List.length_cons]; omega

theorem putp_own (first b M n : Int) (w : World) (h : IsMask b M) (hf0 : 0 ≤ first) (hf1 : first ≤ 255) (h0 : 0 ≤ n) (hn : n ≤ 4611686018427387903) (hf : first % (M + 1) = 0) :
    Calls Tryd.prog 18 #[.int .u8 first, .int .i64 b, .int .u64 n] w fun e w' => ∃ g cap, e = .returned (.tuple #[.slice (some ⟨g, 0, none⟩) (putP first M n).length cap, .int .i64 0]) ∧ Owns w.heap.size w' g (putP first M n).length cap (putP first M n) ∧ Below w.heap.size w w' := by
  by_cases hs : n < M
  · have e : putP first M n = [first + n] := by unfold putP; rw [if_pos hs]
    have ho := own_lit w [first + n] (show 1 ≤ maxLen by decide)
    rw [e]
    exact (putp_short first b M n w h hf0 hf1 h0 hf hs).mono fun e' w' ⟨a1, a2⟩ => ⟨_, _, a1, by rw [a2]; exact ho, by rw [a2]; exact (Below.refl _ w).alloc (Nat.le_refl _) _⟩
  · have e : putP first M n = (first + M) :: sev 9 (n - M) := by unfold putP; rw [if_neg hs]
    rw [e]
    refine (putp_long first b M n w h hf0 hf1 hn hf (by omega)).mono fun e' w' ⟨v, a1, a2, a3⟩ => ?_
    obtain ⟨g, cap, rfl⟩ := ownsRow_succ a2
    exact ⟨g, cap, a1, ⟨rfl, a2⟩, a3⟩
end Go.Proofs.YtdoojlffejjbaaaDoor
