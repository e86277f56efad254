/-
  A range over a function that reads what its body writes; the body may leave the loop. Written by mkloop9.py out of RgLoop.
-/
import Derived.Test.YtekgdljbninjiaaDoorGp3
namespace Go.Proofs.YtekgdljbninjiaaDoor
open Go Go.RowKit Go.Shelf

section
variable {F : Fence} {n : Nat} {P : Program}
/-- What such an iterator answers. -/
def TellsR {σ α : Type} (F : Fence) (n : Nat) (P : Program) (gf : Nat) (lb : Array Value) (encs : α → Array Value) (st : Nat → Prop) (R : σ → World → Prop) (Step : σ → α → σ → Prop) (End : σ → Prop) (s0 : σ) (w : World) : Prop :=
  ∀ (l : Nat) (J : σ → World → Prop) (Js : World → Prop) (W : World), Below w.heap.size w W → (∀ s A, J s A → R s A) → (∀ s A B, J s A → Below A.heap.size A B → J s B) → (∀ A B, Js A → Below A.heap.size A B → Js B) →
    (∀ s x s' W1, Step s x s' → J s W1 → YieldAt F (n - 1) P l (encs x) W1 fun e W' => (e = .returned (.bool true) ∧ J s' W' ∨ e = .returned (.bool false) ∧ Js W') ∧ KeepB w.heap.size st W1 W') → J s0 W →
    CallsIn F n P gf (#[.func (.yield l) #[] #[]] ++ lb) W fun e W' => (∃ v, e = .returned v) ∧ ((∃ s, End s ∧ J s W') ∨ Js W')

theorem rangeFunc_breaks {σ α : Type} {g : Operand} {ps : Array Tmp} {assign body : Code} {Q : Exit → Act → World → Prop} {a : Act} {w : World}
    (hro : F.round = none) (h1 : 1 ≤ n) {gf : Nat} {lb : Array Value} (hg : a.eval g = .func (.func gf) #[] lb) (hFg : F.fn gf) (eg : ∀ args w, (callFunc gf args).run P w = .ok (.enter gf args) w)
    {encs : α → Array Value} (hps : ∀ x, (encs x).size = ps.size) (st : Nat → Prop) (hst : ∀ k, st k → k < w.heap.size) {R : σ → World → Prop} {Step : σ → α → σ → Prop} {End : σ → Prop} {s0 : σ} (hseq : TellsR F (n - 1) P gf lb encs st R Step End s0 w) (id : Nat)
    (I : σ → World → Prop) (Is : World → Prop) (hIR : ∀ s A, I s A → R s A) (hI : ∀ s A B, I s A → KeepP (fun k => k = w.heap.size + 1) A B → I s B) (hIs : ∀ A B, Is A → KeepP (fun k => k = w.heap.size + 1) A B → Is B) (h0 : I s0 w)
    (mk : α → Act)
    (hassign : ∀ (l : Nat) (x : α) (W : World) (K : Act → World → Prop), K (mk x) W →
      assign.wpIn (F.inRound l) (n - 1 - 1) P (Exit.then K (fun _ _ _ => False)) { tmps := (ps.zip (encs x)).foldl (fun t (p, v) => t.setIfInBounds p v) a.tmps, defers := [] } W)
    (hbody : ∀ (l : Nat) (s : σ) (x : α) (s' : σ) (W : World), Step s x s' → I s W → w.heap.size + 2 ≤ W.heap.size →
      body.wpIn (F.inRound l) (n - 1 - 1) P (fun e _ W' => KeepB (w.heap.size + 2) st W W' ∧ (e = .normal ∧ I s' W' ∨ e = .exit id ∧ Is W')) (mk x) W)
    (hdone : ∀ (D : Nat) (s : σ) (W : World), D = w.heap.size → End s → I s W → W.heap[D]? = some (.deferred (some [])) → Q .normal { a with defers := { target := .collected D, args := #[] } :: a.defers } W)
    (hstop : ∀ (D : Nat) (W : World), D = w.heap.size → Is W → W.heap[D]? = some (.deferred (some [])) → Q (.exit id) { a with defers := { target := .collected D, args := #[] } :: a.defers } W) :
    (Code.rangeFunc g ps assign body).wpIn F n P Q a w := by
  refine wpIn_rangeFunc (fun fn hfn => ?_)
  rw [hro]
  obtain ⟨r0, hr0⟩ : ∃ r0 : Loop, r0 = { state := .ready, pending := none, fn, tmps := a.tmps, params := ps, assign, body, defers := w.heap.size } := ⟨_, rfl⟩
  obtain ⟨W0, hW0⟩ : ∃ W0, W0 = (w.alloc (.deferred (some []))).alloc (.loop r0) := ⟨_, rfl⟩
  have hsz : W0.heap.size = w.heap.size + 2 := by rw [hW0]; simp
  have hD0 : W0.heap[w.heap.size]? = some (.deferred (some [])) := by rw [hW0]; exact (Below.heap_alloc _ _ _ (by simp)).trans (heap_alloc_new w _)
  have hL0 : W0.heap[w.heap.size + 1]? = some (.loop r0) := by
    have := heap_alloc_new (w.alloc (.deferred (some []))) (.loop r0)
    rw [World.size_alloc] at this
    rw [hW0]; exact this
  have hbel0 : Below w.heap.size w W0 := by rw [hW0]; exact ((Below.refl _ w).alloc (Nat.le_refl _) _).alloc (by simp) _
  have kput : ∀ (W : World) (o : Obj), KeepP (fun k => k = w.heap.size + 1) W (W.putObj (w.heap.size + 1) o) := fun W o => ⟨rfl, rfl, rfl, by rw [World.putObj_size]; exact Nat.le_refl _, fun k _ hk => World.putObj_heap_other hk⟩
  refine ⟨w.heap.size + 1, [{ target := .collected w.heap.size, args := #[] }], W0, { target := .fn (.func gf) lb, args := #[.func (.yield (w.heap.size + 1)) #[] #[]] }, W0, gf, #[.func (.yield (w.heap.size + 1)) #[] #[]] ++ lb, W0, ?_, ?_, ?_, ?_, fun _ => h1, ?_⟩
  · rw [hW0, hr0]; exact run_enterLoop_outer _ _ _ _ _
  · simp only [resolve, hg]
    simp [go_sem]
  · intro f' hf'
    simp [Target.leads] at hf'
    subst hf'
    exact hFg
  · simp [invoke, go_sem, eg]
  refine (hseq (w.heap.size + 1) (fun s W => I s W ∧ W.heap[w.heap.size]? = some (.deferred (some [])) ∧ W.heap[w.heap.size + 1]? = some (.loop r0))
    (fun W => Is W ∧ W.heap[w.heap.size]? = some (.deferred (some [])) ∧ W.heap[w.heap.size + 1]? = some (.loop { r0 with state := .done, pending := some (.exit id) })) W0 hbel0 (fun s A h => hIR s A h.1) ?_ ?_ ?_ ⟨hI _ _ _ h0 (KeepP.of_below hbel0), hD0, hL0⟩).mono ?_
  · rintro s A B ⟨hi, hd, hl⟩ hb
    have := (Array.getElem?_eq_some_iff.1 hl).1
    exact ⟨hI _ _ _ hi (KeepP.of_below hb), (hb.block _ (by omega)).trans hd, (hb.block _ (by omega)).trans hl⟩
  · rintro A B ⟨hi, hd, hl⟩ hb
    have := (Array.getElem?_eq_some_iff.1 hl).1
    exact ⟨hIs _ _ hi (KeepP.of_below hb), (hb.block _ (by omega)).trans hd, (hb.block _ (by omega)).trans hl⟩
  · rintro s x s' W hstep ⟨hi, hd, hl⟩
    have hlt : w.heap.size + 1 < W.heap.size := (Array.getElem?_eq_some_iff.1 hl).1
    have hy := run_yield (P := P) (args := encs x) hl (by rw [hr0]; exact hps x)
    rw [hr0] at hy
    refine ⟨fn, _, assign, body, hy, roundIn_of_wpIn hfn (hassign _ x W _ ?_)⟩
    refine ⟨_, run_beginRound hl (by rw [hr0]), ?_⟩
    refine wpIn_mono (hbody _ s x s' _ hstep (hI _ _ _ hi (kput W _)) (by rw [World.putObj_size]; omega)) ?_
    rintro e a3 W3 ⟨hk3, hcase⟩
    have hl3 : W3.heap[w.heap.size + 1]? = some (.loop { r0 with state := .busy }) := (hk3.block _ (by omega) (fun e => by have := hst _ e; omega)).trans (World.putObj_heap_same (by omega))
    have hd3 : W3.heap[w.heap.size]? = some (.deferred (some [])) := (hk3.block _ (by omega) (fun e => by have := hst _ e; omega)).trans ((World.putObj_heap_other (by omega)).trans hd)
    have hs3 : W.heap.size ≤ W3.heap.size := by have := hk3.size; rw [World.putObj_size] at this; exact this
    have keep : ∀ o, KeepB w.heap.size st W (W3.putObj (w.heap.size + 1) o) := fun o => by
      refine ⟨?_, ?_, ?_, ?_, fun k hk hks => ?_⟩
      · exact hk3.os
      · exact hk3.tape
      · exact hk3.output
      · rw [World.putObj_size]; omega
      · rw [World.putObj_heap_other (by omega), hk3.block k (by omega) hks, World.putObj_heap_other (by omega)]
    rcases hcase with ⟨rfl, hi3⟩ | ⟨rfl, hi3⟩
    · have he := run_endRound (P := P) none hl3
      have hr : ({ { r0 with state := .busy } with state := if (none : Option Code).isNone then .ready else .done, pending := none } : Loop) = r0 := by rw [hr0]; rfl
      rw [hr] at he
      exact ⟨_, _, he, .inl ⟨rfl, hI _ _ _ hi3 (kput _ _), (World.putObj_heap_other (by omega)).trans hd3, World.putObj_heap_same (by omega)⟩, keep _⟩
    · have he := run_endRound (P := P) (some (.exit id)) hl3
      have hr : ({ { r0 with state := .busy } with state := if (some (Code.exit id) : Option Code).isNone then .ready else .done, pending := some (.exit id) } : Loop) = { r0 with state := .done, pending := some (.exit id) } := by rw [hr0]; rfl
      rw [hr] at he
      exact ⟨_, _, he, .inr ⟨rfl, hIs _ _ hi3 (kput _ _), (World.putObj_heap_other (by omega)).trans hd3, World.putObj_heap_same (by omega)⟩, keep _⟩
  · rintro e W2 ⟨⟨v, rfl⟩, ⟨s, hend, hi, hd, hl⟩ | ⟨hi, hd, hl⟩⟩
    · have he := run_endLoop (P := P) hl (by rw [hr0]; simp)
      rw [show r0.pending = none by rw [hr0]] at he
      exact ⟨none, _, he, hdone w.heap.size s _ rfl hend (hI _ _ _ hi (kput _ _)) ((World.putObj_heap_other (by omega)).trans hd)⟩
    · have he := run_endLoop (P := P) hl (by simp)
      exact ⟨some (.exit id), _, he, wpIn_exit (hstop w.heap.size _ rfl (hIs _ _ hi (kput _ _)) ((World.putObj_heap_other (by omega)).trans hd))⟩
end
end Go.Proofs.YtekgdljbninjiaaDoor
