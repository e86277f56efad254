/-
  A range over a function, where the iterator has memory of its own, old blocks (M0) and new ones, that the body leaves alone, and the body has memory of its own that the iterator leaves alone; the body goes on always. What the iterator leaves in its own memory is told at the end.
-/
import Derived.Test.YtoajnhngcfjohaaHfLoop
namespace Go.Proofs.Ytoajnhngcfjohaa
open Go Go.RowKit Go.Shelf

section
variable {P : Program}
/-- What such an iterator answers. -/
def TellsO {σ α : Type} (P : Program) (gf : Nat) (lb : Array Value) (encs : α → Array Value) (st M0 : Nat → Prop) (Gb : World → Prop) (Step : σ → α → σ → Prop) (End : σ → World → Prop) (s0 : σ) (w : World) : Prop :=
  ∀ (n l : Nat) (J : σ → (Nat → Prop) → World → Prop) (W : World), Below w.heap.size w W → (∀ s M A, J s M A → Gb A) → (∀ s M A B, J s M A → KeepM M A B → J s (newM M A B) B) →
    (∀ s x s' M W1, Step s x s' → J s M W1 → YieldW P l (encs x) W1 fun e W' => (e = .returned (.bool true) ∧ J s' M W') ∧ KeepY w.heap.size st M W1 W') → J s0 M0 W →
    CallsIn Fence.wide n P gf (#[.func (.yield l) #[] #[]] ++ lb) W fun e W' => (∃ v, e = .returned v) ∧ ∃ s M, End s W' ∧ J s M W'

theorem rangeFunc_tellsO {σ α : Type} {n : Nat} {g : Operand} {ps : Array Tmp} {assign body : Code} {Q : Exit → Act → World → Prop} {a : Act} {w : World}
    {gf : Nat} {lb : Array Value} (hg : a.eval g = .func (.func gf) #[] lb) (eg : ∀ args w, (callFunc gf args).run P w = .ok (.enter gf args) w)
    {encs : α → Array Value} (hps : ∀ x, (encs x).size = ps.size) (st M0 : Nat → Prop) (hst : ∀ k, st k → k < w.heap.size) (hM0 : ∀ k, M0 k → k < w.heap.size) {Gb : World → Prop} {Step : σ → α → σ → Prop} {End : σ → World → Prop} {s0 : σ} (hseq : TellsO P gf lb encs st M0 Gb Step End s0 w)
    (hEnd : ∀ s A B, End s A → KeepP (fun k => k = w.heap.size + 1) A B → End s B)
    (I : σ → (Nat → Prop) → World → Prop) (hIG : ∀ s M A, I s M A → Gb A) (hI : ∀ s M A B, I s M A → KeepP (fun k => k = w.heap.size + 1) A B → I s M B)
    (hIm : ∀ s M A B, I s M A → KeepM M A B → I s (newM M A B) B) (h0 : I s0 M0 w)
    (mk : α → Nat → Act) (Rx : α → Nat → World → Prop) (hRx : ∀ x b W W', Rx x b W → W'.heap[b]? = W.heap[b]? → Rx x b W')
    (hassign : ∀ (l : Nat) (x : α) (W : World) (K : Act → World → Prop), (∀ Wa, Below W.heap.size W Wa → Rx x W.heap.size Wa → K (mk x W.heap.size) Wa) →
      assign.wpIn (Fence.wide.inRound l) (n - 1 - 1) P (Exit.then K (fun _ _ _ => False)) { tmps := (ps.zip (encs x)).foldl (fun t (p, v) => t.setIfInBounds p v) a.tmps, defers := [] } W)
    (hbody : ∀ (l : Nat) (s : σ) (x : α) (s' : σ) (M : Nat → Prop) (V W : World), Step s x s' → I s M V → KeepP (fun k => k = w.heap.size + 1) V W → Rx x V.heap.size W → w.heap.size + 2 ≤ V.heap.size → (∀ k, M k → (k < w.heap.size ∧ M0 k ∨ w.heap.size + 2 ≤ k) ∧ k < V.heap.size) →
      body.wpIn (Fence.wide.inRound l) (n - 1 - 1) P (fun e _ W' => KeepY (w.heap.size + 2) st M W W' ∧ (e = .normal ∧ I s' M W')) (mk x V.heap.size) W)
    (hdone : ∀ (D : Nat) (s : σ) (M : Nat → Prop) (W : World), D = w.heap.size → End s W → I s M W → W.heap[D]? = some (.deferred (some [])) → Q .normal { a with defers := { target := .collected D, args := #[] } :: a.defers } W) :
    (Code.rangeFunc g ps assign body).wpIn Fence.wide n P Q a w := by
  refine wpIn_rangeFunc (fun fn hfn => ?_)
  rw [show Fence.wide.round = none from rfl]
  obtain ⟨r0, hr0⟩ : ∃ r0 : Loop, r0 = { state := .ready, pending := none, fn, tmps := a.tmps, params := ps, assign, body, defers := w.heap.size } := ⟨_, rfl⟩
  obtain ⟨W0, hW0⟩ : ∃ W0, W0 = (w.alloc (.deferred (some []))).alloc (.loop r0) := ⟨_, rfl⟩
  have hsz : W0.heap.size = w.heap.size + 2 := by rw [hW0]; simp
  have hD0 : W0.heap[w.heap.size]? = some (.deferred (some [])) := by rw [hW0]; exact (Below.heap_alloc _ _ _ (by simp)).trans (heap_alloc_new w _)
  have hL0 : W0.heap[w.heap.size + 1]? = some (.loop r0) := by
    have := heap_alloc_new (w.alloc (.deferred (some []))) (.loop r0)
    rw [World.size_alloc] at this
    rw [hW0]; exact this
  have hbel0 : Below w.heap.size w W0 := by rw [hW0]; exact ((Below.refl _ w).alloc (Nat.le_refl _) _).alloc (by simp) _
  have kput : ∀ (W : World) (o : Obj), KeepP (fun k => k = w.heap.size + 1) W (W.putObj (w.heap.size + 1) o) := fun W o => ⟨rfl, rfl, rfl, by rw [World.putObj_size]; exact Nat.le_refl _, fun k _ hk => World.putObj_heap_other hk⟩
  refine ⟨w.heap.size + 1, [{ target := .collected w.heap.size, args := #[] }], W0, { target := .fn (.func gf) lb, args := #[.func (.yield (w.heap.size + 1)) #[] #[]] }, W0, gf, #[.func (.yield (w.heap.size + 1)) #[] #[]] ++ lb, W0, ?_, ?_, ?_, ?_, (fun h => by simp [Fence.wide] at h), ?_⟩
  · rw [hW0, hr0]; exact run_enterLoop_outer _ _ _ _ _
  · simp only [resolve, hg]
    simp [go_sem]
  · intro f' hf'
    exact trivial
  · simp [invoke, go_sem, eg]
  refine (hseq (n - 1) (w.heap.size + 1) (fun s M W => I s M W ∧ (∀ k, M k → (k < w.heap.size ∧ M0 k ∨ w.heap.size + 2 ≤ k) ∧ k < W.heap.size) ∧ W.heap[w.heap.size]? = some (.deferred (some [])) ∧ W.heap[w.heap.size + 1]? = some (.loop r0))
    W0 hbel0 (fun s M A h => hIG s M A h.1) ?_ ?_ ⟨hI _ _ _ _ h0 (KeepP.of_below hbel0), (fun k h => ⟨.inl ⟨hM0 k h, h⟩, by have := hM0 k h; omega⟩), hD0, hL0⟩).mono ?_
  · rintro s M A B ⟨hi, hm, hd, hl⟩ hb
    have hlt := (Array.getElem?_eq_some_iff.1 hl).1
    have hbs := hb.size
    refine ⟨hIm _ _ _ _ hi hb, ?_, (hb.block _ (by omega) (fun c => by have := hm _ c; omega)).trans hd, (hb.block _ (by omega) (fun c => by have := hm _ c; omega)).trans hl⟩
    rintro k (hk | ⟨h1, h2⟩)
    · have := hm k hk; exact ⟨this.1, by omega⟩
    · exact ⟨.inr (by omega), by omega⟩
  · rintro s x s' M W hstep ⟨hi, hm, hd, hl⟩
    refine yieldW_of (m := n - 1 - 1) ?_
    have hlt : w.heap.size + 1 < W.heap.size := (Array.getElem?_eq_some_iff.1 hl).1
    have hy := run_yield (P := P) (args := encs x) hl (by rw [hr0]; exact hps x)
    rw [hr0] at hy
    refine ⟨fn, _, assign, body, hy, roundIn_of_wpIn hfn (hassign _ x W _ (fun Wa hba hxa => ?_))⟩
    have hla := (hba.block _ hlt).trans hl
    have hda := (hba.block _ (show w.heap.size < W.heap.size by omega)).trans hd
    have hsa := hba.size
    refine ⟨_, run_beginRound hla (by rw [hr0]), ?_⟩
    refine wpIn_mono (hbody _ s x s' M W _ hstep hi ((KeepP.of_below hba).trans (kput Wa _)) (hRx _ _ _ _ hxa (World.putObj_heap_other (by omega))) (by omega) hm) ?_
    rintro e a3 W3 ⟨hk3, rfl, hi3⟩
    have hl3 : W3.heap[w.heap.size + 1]? = some (.loop { r0 with state := .busy }) := (hk3.block _ (by rw [World.putObj_size]; omega) (.inl ⟨by omega, fun e => by have := hst _ e; omega⟩)).trans (World.putObj_heap_same (by omega))
    have hd3 : W3.heap[w.heap.size]? = some (.deferred (some [])) := (hk3.block _ (by rw [World.putObj_size]; omega) (.inl ⟨by omega, fun e => by have := hst _ e; omega⟩)).trans ((World.putObj_heap_other (by omega)).trans hda)
    have hs3 : Wa.heap.size ≤ W3.heap.size := by have := hk3.size; rw [World.putObj_size] at this; exact this
    have hm3 : ∀ k, M k → (k < w.heap.size ∧ M0 k ∨ w.heap.size + 2 ≤ k) ∧ k < W3.heap.size := fun k hk => by have := hm k hk; exact ⟨this.1, by omega⟩
    have keep : ∀ o, KeepY w.heap.size st M W (W3.putObj (w.heap.size + 1) o) := fun o => by
      refine ⟨?_, ?_, ?_, ?_, fun k hk hks => ?_⟩
      · exact hk3.os.trans hba.os
      · exact hk3.tape.trans hba.tape
      · exact hk3.output.trans hba.output
      · rw [World.putObj_size]; omega
      · have hne : k ≠ w.heap.size + 1 := by
          rcases hks with ⟨h1, _⟩ | h1
          · omega
          · have := hm k h1; omega
        rw [World.putObj_heap_other hne, hk3.block k (by rw [World.putObj_size]; omega) (hks.elim (fun h => .inl ⟨by omega, h.2⟩) .inr), World.putObj_heap_other hne, hba.block k (by omega)]
    have he := run_endRound (P := P) none hl3
    have hr : ({ { r0 with state := .busy } with state := if (none : Option Code).isNone then .ready else .done, pending := none } : Loop) = r0 := by rw [hr0]; rfl
    rw [hr] at he
    exact ⟨_, _, he, ⟨rfl, hI _ _ _ _ hi3 (kput _ _), (fun k hk => by rw [World.putObj_size]; exact hm3 k hk), (World.putObj_heap_other (by omega)).trans hd3, World.putObj_heap_same (by omega)⟩, keep _⟩
  · rintro e W2 ⟨⟨v, rfl⟩, s, M, hend, hi, hm, hd, hl⟩
    have he := run_endLoop (P := P) hl (by rw [hr0]; simp)
    rw [show r0.pending = none by rw [hr0]] at he
    exact ⟨none, _, he, hdone w.heap.size s M _ rfl (hEnd _ _ _ hend (kput _ _)) (hI _ _ _ _ hi (kput _ _)) ((World.putObj_heap_other (by omega)).trans hd)⟩
end
end Go.Proofs.Ytoajnhngcfjohaa
