/-
  Frames that came in, appended to a row of the call's own.
-/
import Derived.Test.YtjhgelhdhdcmfaaDoorGfFrGet
import Derived.Test.YtjhgelhdhdcmfaaDoorGfFrAliveP
namespace Go.Proofs.YtjhgelhdhdcmfaaDoor
open Go Go.RowKit

theorem vf_inv (Fs : List FrM) (J : Nat) (u : Value) (h : (vf Fs)[J]? = some u) : J / 8 < Fs.length ∧ (gf Fs (J / 8)).cells.toList[J % 8]? = some u := by
  have hJ : J < Fs.length * 8 := by
    have := (List.getElem?_eq_some_iff.1 h).1
    rw [vf_length] at this
    exact this
  have hj : J / 8 < Fs.length := by omega
  refine ⟨hj, ?_⟩
  have hi : J % 8 < (gf Fs (J / 8)).cells.toList.length := by show J % 8 < 8; omega
  have h1 := vf_at Fs (J / 8) (J % 8) _ hj (List.getElem?_eq_getElem hi)
  rw [show J / 8 * 8 + J % 8 = J by omega, h] at h1
  rw [List.getElem?_eq_getElem hi]
  exact h1.symm
section
variable {ops : Array Oper} {rest : List Oper} {o : Oper} {a : Act} {w : World} {Q : Exit → Act → World → Prop}
theorem append_fs (hgd : o.guard = none) (s x : Operand) (ho : o.op = .call { callee := .builtin .append, args := #[s, x], argTypes := #[22, 22] })
    (base : Nat) (v : Value) (n : Nat) (Fs : List FrM) (hs : a.eval s = v) (hown : w.ownsRow base 39 8 v n (vf Fs)) (q : FS) (hq : q.Ok w) (hx : a.eval x = .slice q.a q.len q.cap) (hl : n + q.len ≤ 8388608) (hbase : base ≤ w.heap.size)
    (h : ∀ v' w', w'.ownsRow base 39 8 v' (n + q.len) (vf (Fs ++ q.l)) → w.grownBy w' v.ownBlock → wpList Tryd.prog ops Q rest (a.put o.dst v') w') : wpList Tryd.prog ops Q (o :: rest) a w := by
  obtain ⟨i0, hi, hz0, hz1, hz2⟩ := frame_info
  obtain ⟨ad, len, cap, g, off, l⟩ := q
  cases ad with
  | none =>
    obtain ⟨h1, h2⟩ := hq.nil rfl
    simp only at h1 h2
    subst h1 h2
    have hb0 : l = [] := List.eq_nil_of_length_eq_zero hq.hb
    subst hb0
    refine wpList_append_own_none hgd s x 22 ho base 39 i0 8 Tryd.underlying22 hi v n (vf Fs) hs hown hx (h _ _ ?_ ⟨rfl, rfl, rfl, Nat.le_refl _, fun _ _ _ => rfl⟩)
    simpa using hown
  | some ad =>
    have hb : l.length = len := hq.hb
    refine wpList_append_own w hgd s x 22 ho base 39 i0 (.agg zF) 8 96 Tryd.underlying22 hi hz0 hz1 hz2 rfl (by decide) v n (vf Fs) hs hown ad len cap (vf l) hx (by rw [vf_length, hb]) ?_ (vf_one l) (by unfold maxLen; simp only at hl; omega) (by simp only at hl; omega) hbase ?_
    · intro J u hJ
      obtain ⟨h1, h2⟩ := vf_inv l J u hJ
      have e := hq.at_ (show 0 < len by omega)
      simp only at e
      injection e with e
      subst e
      rw [add_at]
      have := hq.cell (J / 8) (show J / 8 < len by omega) (J % 8) u h2
      simp only at this
      rw [← this]
      congr 2
      omega
    · intro v' w' h1 h2 _
      rw [← vf_append] at h1
      exact h v' w' h1 h2
end
theorem fs_own2 {w : World} {base n : Nat} {v : Value} {Fs : List FrM} (hn : Fs.length = n) (h : w.ownsRow base 39 8 v n (vf Fs)) (he : ∀ F ∈ Fs, F.Ok w) : ∃ fs : FS, v = .slice fs.a fs.len fs.cap ∧ fs.Ok w ∧ fs.l = Fs := by
  have each : ∀ j, j < Fs.length → (gf Fs j).Ok w := by
    intro j hj
    refine he _ ?_
    unfold gf
    rw [List.getElem?_eq_getElem hj]
    exact List.getElem_mem hj
  rcases h.2 with ⟨rfl, h0⟩ | ⟨g, c, cur, rfl, hb, hh, hc, hm, hsz, htk⟩
  · exact ⟨⟨none, 0, 0, 0, 0, Fs⟩, rfl, ⟨by rw [hn]; exact h0, Nat.le_refl _, fun _ => ⟨rfl, rfl⟩, fun p => absurd p (Nat.lt_irrefl _), fun p => absurd p (Nat.lt_irrefl _), fun j hj => absurd hj (Nat.not_lt_zero _), fun j hj => absurd hj (Nat.not_lt_zero _)⟩, rfl⟩
  · refine ⟨⟨some ⟨g, 0, none⟩, n, c, g, 0, Fs⟩, rfl, ⟨hn, hc, (fun e => by cases e), fun _ => rfl, fun _ => (Array.getElem?_eq_some_iff.1 hh).1, fun j hj => ?_, fun j hj => each j (by rw [hn]; exact hj)⟩, rfl⟩
    intro i u hu
    have := h.cells (g := g) rfl (j * 8 + i) u (vf_at Fs j i u (by rw [hn]; exact hj) hu)
    rw [add_at, Nat.zero_add] at this
    show w.cell? ⟨g, 0 + j * 8 + i, none⟩ = _
    rw [Nat.zero_add]
    exact this
/-- Two rows of the call's own, of frames and of bytes, are apart. -/
theorem own_apart7 {w : World} {b1 b2 n m : Nat} {v u : Value} {xs ys : List Value} (h : w.ownsRow b1 39 8 v n xs) (k : w.ownsRow b2 5 1 u m ys) : v.ownBlock = none ∨ v.ownBlock ≠ u.ownBlock := by
  rcases h.2 with ⟨rfl, _⟩ | ⟨g, c, cur, rfl, _, hh, _⟩
  · exact .inl rfl
  · rcases k.2 with ⟨rfl, _⟩ | ⟨g', c', cur', rfl, _, kk, _⟩
    · exact .inr (by intro e; cases e)
    · refine .inr fun e => ?_
      have e' : g = g' := Option.some.inj e
      subst e'
      rw [hh] at kk
      injection kk with kk
      injection kk with _ kk
      exact absurd kk (by decide)
/-- What the appended frames have stays as it was. -/
theorem fr_mem_ok {s : FS} {w w' : World} (hs : s.Ok w) (hb : Below w.heap.size w w') : ∀ F ∈ s.l, F.Ok w' := by
  intro F hF
  obtain ⟨j, hj, e⟩ := List.getElem_of_mem hF
  have := hs.each j (by rw [← hs.hb]; exact hj)
  unfold gf at this
  rw [List.getElem?_eq_getElem hj] at this
  rw [← e]
  exact FrM.Ok.below this hb
end Go.Proofs.YtjhgelhdhdcmfaaDoor
