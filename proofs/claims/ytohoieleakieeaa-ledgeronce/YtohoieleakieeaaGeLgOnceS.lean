/-
  What holds when a packet was sent. No walk in sight.
-/
import Derived.Test.YtohoieleakieeaaGeLgOnceQ
namespace Go.Proofs.Ytohoieleakieeaa
open Go Go.RowKit

section
variable {w W W' : World} {g c : Nat} {As : List AM} {T0 : List Nat} {s s' : Lg.Led} {v sv tv v' : Value}
theorem OnceI.sendNo (h : OnceI w g c As T0 s v sv tv W) (hL : LOk (c + 1) W' g v' s) (hk : KeepL g v W W') (hv : Stay v v' W) : OnceI w g (c + 1) As T0 s v' sv tv W' :=
  ⟨hL, h.bel.trans (hk.below (fun q hq => hq.elim (fun e => by rw [e]; exact h.gw) (fun e => h.vw q e)) h.bel.size), h.gw, fun q hq => (hv q hq).elim (h.vw q) (fun e => by have := h.bel.size; omega), own_keepL h.sent h.lok.ld hk (by decide) (by decide), own_keepL h.told h.lok.ld hk (by decide) (by decide), h.book, h.sz, Nat.le_trans h.len (by omega)⟩
theorem OnceI.sendYes (h : OnceI w g c As T0 s v sv tv W) (hc : c ≤ 1000) {a : AM} (hE : Lg.sentE s a.num a.size a.now = 0) (hL : LOk (c + 1) W' g v' (Lg.sent s a.num a.size a.now a.asks)) (hk : KeepL g v W W') (hv : Stay v v' W) :
    ∃ sa sc W2, (Builtin.append_ #[22, 22] 22 #[sv, .slice (some ⟨W'.heap.size, 0, none⟩) 1 1]).run Try.prog (W'.alloc (.cells #[.int .u8 (a.kind : Int), .int .u64 (a.num : Int), .int .i64 a.size, .bool a.asks, .slice a.ranges.a a.ranges.len a.ranges.cap, .int .u64 (a.delay : Int), .int .u64 (a.now : Int)] 30)) = .ok (.slice sa (As ++ [a]).length sc) W2 ∧
      OnceI w g (c + 1) (As ++ [a]) T0 (Lg.sent s a.num a.size a.now a.asks) v' (.slice sa (As ++ [a]).length sc) tv W2 := by
  have hb : Below w.heap.size w W' := h.bel.trans (hk.below (fun q hq => hq.elim (fun e => by rw [e]; exact h.gw) (fun e => h.vw q e)) h.bel.size)
  have hs1 := own_keepL h.sent h.lok.ld hk (by decide) (by decide)
  have ht1 := own_keepL h.told h.lok.ld hk (by decide) (by decide)
  have hb1 : Below W'.heap.size W' (W'.alloc (.cells a.cells 30)) := (Below.refl _ W').alloc (Nat.le_refl _) _
  obtain ⟨v9, W2, a1, a2, a3⟩ := ac_append (W'.alloc (.cells a.cells 30)) 22 w.heap.size sv As a W'.heap.size (own_below2 hs1 hb1) (Row.new _ _ _) (by have := h.len; omega) (by have := hb.size; simp; omega)
  obtain ⟨sa, sc, hsv⟩ := own_shape15 a2
  subst hsv
  have keep : ∀ q, q < W'.heap.size → sv.ownBlock ≠ some q → W2.heap[q]? = W'.heap[q]? := fun q hq hn => (a3.block q (by simp; omega) (fun e => hn e.symm)).trans (hb1.block q hq)
  have hsz : W'.heap.size ≤ W2.heap.size := by have := a3.size; simp at this; omega
  have hty : ∀ q, sv.ownBlock = some q → ∃ cur, W'.heap[q]? = some (.cells cur 30 (0, 0)) := fun q hq => own_type hs1 hq
  have hng : sv.ownBlock ≠ some g := fun q => by
    obtain ⟨cur, hc1⟩ := hty g q
    have := hc1.symm.trans (show W'.heap[g]? = some _ from hL.ld.row)
    injection this with this
    injection this with _ this
    exact absurd this (by decide)
  have hnv : ∀ q, v'.ownBlock = some q → sv.ownBlock ≠ some q := fun q hq hq2 => by
    obtain ⟨cur, hc1⟩ := hty q hq2
    rcases hL.ld.way.2 with ⟨rfl, _⟩ | ⟨b, o, cap, cur2, rfl, hg, _⟩
    · cases hq
    · injection hq with hq
      have hq' : b = q := hq
      subst hq'
      have := hc1.symm.trans hg
      injection this with this
      injection this with _ this
      exact absurd this (by decide)
  have hnt : ∀ q, tv.ownBlock = some q → sv.ownBlock ≠ some q := fun q hq hq2 => by
    obtain ⟨cur, hc1⟩ := hty q hq2
    obtain ⟨cur2, hc2⟩ := own_type ht1 hq
    have := hc1.symm.trans hc2
    injection this with this
    injection this with _ this
    exact absurd this (by decide)
  have hok : 1 ≤ a.size ∧ a.size ≤ 1200 := by
    unfold Lg.sentE at hE
    split at hE
    · rename_i q; exact ⟨q.2.2.1, q.2.2.2.1⟩
    · cases hE
  refine ⟨sa, sc, W2, a1, ⟨⟨hL.ld.same (keep g hL.ld.lt hng) (fun q hq => keep q (hL.ld.way.lt q hq) (hnv q hq)), hL.fit, hL.sane⟩, ?_, h.gw, fun q hq => (hv q hq).elim (h.vw q) (fun e => by have := h.bel.size; omega), a2, ?_, ?_, ?_, ?_⟩⟩
  · exact ⟨a3.os.trans (hb1.os.trans hb.os), a3.tape.trans (hb1.tape.trans hb.tape), a3.output.trans (hb1.output.trans hb.output), Nat.le_trans hb.size hsz, fun q hq => (keep q (by have := hb.size; omega) (fun e => by have := (hs1.lt q e).1; omega)).trans (hb.block q hq)⟩
  · obtain ⟨r1, r2⟩ := ht1
    refine ⟨r1, ?_⟩
    rcases r2 with r2 | ⟨g', c', cur, r3, r4, r5, r6⟩
    · exact .inl r2
    · exact .inr ⟨g', c', cur, r3, r4, (keep g' (Array.getElem?_eq_some_iff.1 r5).1 (hnt g' (by rw [r3]; rfl))).trans r5, r6⟩
  · have := h.book.sent a.num a.size a.now a.asks hE
    rw [List.map_append]
    exact this
  · intro x hx
    rcases List.mem_append.1 hx with q | q
    · exact h.sz x q
    · obtain rfl : x = a := by simpa using q
      exact hok
  · rw [List.length_append, List.length_singleton]
    have := h.len
    omega
end
end Go.Proofs.Ytohoieleakieeaa
