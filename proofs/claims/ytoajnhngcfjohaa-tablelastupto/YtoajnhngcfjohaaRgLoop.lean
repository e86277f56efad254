/-
  A range over a function that goes from state to state; its body may write what was made behind the loop's beginning, and may leave by a return.
-/
import Derived.Test.YtoajnhngcfjohaaHkLoop
namespace Go.Proofs.Ytoajnhngcfjohaa
open Go Go.RowKit Go.Shelf

/-- The first blocks, but for some, lie as they lay. -/
structure KeepB (B : Nat) (st : Nat → Prop) (W W' : World) : Prop where
  os : W'.os = W.os
  tape : W'.tape = W.tape
  output : W'.output = W.output
  size : W.heap.size ≤ W'.heap.size
  block : ∀ k, k < B → ¬ st k → W'.heap[k]? = W.heap[k]?
theorem KeepB.refl (B : Nat) (st : Nat → Prop) (W : World) : KeepB B st W W := ⟨rfl, rfl, rfl, Nat.le_refl _, fun _ _ _ => rfl⟩
theorem KeepB.trans {B : Nat} {st : Nat → Prop} {A C D : World} (h : KeepB B st A C) (k : KeepB B st C D) : KeepB B st A D :=
  ⟨k.os.trans h.os, k.tape.trans h.tape, k.output.trans h.output, Nat.le_trans h.size k.size, fun i hi hs => (k.block i hi hs).trans (h.block i hi hs)⟩
theorem KeepB.of_below {B : Nat} {st : Nat → Prop} {W W' : World} (h : Below B W W') : KeepB B st W W' := ⟨h.os, h.tape, h.output, h.size, fun k hk _ => h.block k hk⟩
theorem KeepB.mono {B C : Nat} {st : Nat → Prop} {W W' : World} (h : KeepB B st W W') (hc : C ≤ B) : KeepB C st W W' := ⟨h.os, h.tape, h.output, h.size, fun k hk hs => h.block k (by omega) hs⟩
theorem KeepB.setCell {B : Nat} {st : Nat → Prop} {g : Nat} (hg : st g ∨ B ≤ g) (W : World) (o : Nat) (v : Value) : KeepB B st W (W.setCell ⟨g, o, none⟩ v) :=
  ⟨rfl, rfl, rfl, by simp [World.setCell], fun k hk hs => Below.heap_setCell W _ v k (fun e => hg.elim (fun h => hs (by rw [e]; exact h)) (fun h => by simp only at e; omega))⟩

section
variable {F : Fence} {n : Nat} {P : Program}
/-- What such an iterator answers. -/
def TellsS {σ α : Type} (F : Fence) (n : Nat) (P : Program) (gf : Nat) (lb : Array Value) (encs : α → Array Value) (st : Nat → Prop) (Step : σ → α → σ → Prop) (End : σ → Prop) (s0 : σ) (w : World) : Prop :=
  ∀ (l : Nat) (J : σ → World → Prop) (Js : World → Prop) (W : World), Below w.heap.size w W → (∀ s A B, J s A → Below A.heap.size A B → J s B) → (∀ A B, Js A → Below A.heap.size A B → Js B) →
    (∀ s x s' W1, Step s x s' → J s W1 → YieldAt F (n - 1) P l (encs x) W1 fun e W' => (e = .returned (.bool true) ∧ J s' W' ∨ e = .returned (.bool false) ∧ Js W') ∧ KeepB w.heap.size st W1 W') → J s0 W →
    CallsIn F n P gf (#[.func (.yield l) #[] #[]] ++ lb) W fun e W' => (∃ v, e = .returned v) ∧ ((∃ s, End s ∧ J s W') ∨ Js W')

theorem rangeFunc_stops {σ α : Type} {g : Operand} {ps : Array Tmp} {assign body : Code} {Q : Exit → Act → World → Prop} {a : Act} {w : World}
    (hro : F.round = none) (h1 : 1 ≤ n) {gf : Nat} {lb : Array Value} (hg : a.eval g = .func (.func gf) #[] lb) (hFg : F.fn gf) (eg : ∀ args w, (callFunc gf args).run P w = .ok (.enter gf args) w)
    {encs : α → Array Value} (hps : ∀ x, (encs x).size = ps.size) (st : Nat → Prop) (hst : ∀ k, st k → k < w.heap.size) {Step : σ → α → σ → Prop} {End : σ → Prop} {s0 : σ} (hseq : TellsS F (n - 1) P gf lb encs st Step End s0 w)
    (I : σ → World → Prop) (Is : World → Prop) (hI : ∀ s A B, I s A → KeepP (fun k => k = w.heap.size + 1) A B → I s B) (hIs : ∀ A B, Is A → KeepP (fun k => k = w.heap.size + 1) A B → Is B) (h0 : I s0 w)
    (mk : α → Nat → Act) (Rx : α → Nat → World → Prop) (hRx : ∀ x b W W', Rx x b W → W'.heap[b]? = W.heap[b]? → Rx x b W')
    (hassign : ∀ (l : Nat) (x : α) (W : World) (K : Act → World → Prop), (∀ Wa, Below W.heap.size W Wa → W.heap.size < Wa.heap.size → Rx x W.heap.size Wa → K (mk x W.heap.size) Wa) →
      assign.wpIn (F.inRound l) (n - 1 - 1) P (Exit.then K (fun _ _ _ => False)) { tmps := (ps.zip (encs x)).foldl (fun t (p, v) => t.setIfInBounds p v) a.tmps, defers := [] } W)
    (hbody : ∀ (l : Nat) (s : σ) (x : α) (s' : σ) (b : Nat) (W : World), Step s x s' → I s W → Rx x b W → w.heap.size + 2 ≤ b → b < W.heap.size →
      body.wpIn (F.inRound l) (n - 1 - 1) P (fun e _ W' => KeepB (w.heap.size + 2) st W W' ∧ (e = .normal ∧ I s' W' ∨ e = .ret ∧ Is W')) (mk x b) W)
    (hdone : ∀ (D : Nat) (s : σ) (W : World), D = w.heap.size → End s → I s W → W.heap[D]? = some (.deferred (some [])) → Q .normal { a with defers := { target := .collected D, args := #[] } :: a.defers } W)
    (hstop : ∀ (D : Nat) (W : World), D = w.heap.size → Is W → W.heap[D]? = some (.deferred (some [])) → Q .ret { a with defers := { target := .collected D, args := #[] } :: a.defers } W) :
    (Code.rangeFunc g ps assign body).wpIn F n P Q a w := by
  refine wpIn_rangeFunc (fun fn hfn => ?_)
  rw [hro]
  obtain ⟨r0, hr0⟩ : ∃ r0 : Loop, r0 = { state := .ready, pending := none, fn, tmps := a.tmps, params := ps, assign, body, defers := w.heap.size } := ⟨_, rfl⟩
  obtain ⟨W0, hW0⟩ : ∃ W0, W0 = (w.alloc (.deferred (some []))).alloc (.loop r0) := ⟨_, rfl⟩
  have hsz : W0.heap.size = w.heap.size + 2 := by rw [hW0]; simp
  have hD0 : W0.heap[w.heap.size]? = some (.deferred (some [])) := by rw [hW0]; exact (Below.heap_alloc _ _ _ (by simp)).trans (heap_alloc_new w _)
  have hL0 : W0.heap[w.heap.size + 1]? = some (.loop r0) := by
    have := heap_alloc_new (w.alloc (.deferred (some []))) (.loop r0)
    rw [World.size_alloc] at this
    rw [hW0]; exact this
  have hbel0 : Below w.heap.size w W0 := by rw [hW0]; exact ((Below.refl _ w).alloc (Nat.le_refl _) _).alloc (by simp) _
  have kput : ∀ (W : World) (o : Obj), KeepP (fun k => k = w.heap.size + 1) W (W.putObj (w.heap.size + 1) o) := fun W o => ⟨rfl, rfl, rfl, by rw [World.putObj_size]; exact Nat.le_refl _, fun k _ hk => World.putObj_heap_other hk⟩
  refine ⟨w.heap.size + 1, [{ target := .collected w.heap.size, args := #[] }], W0, { target := .fn (.func gf) lb, args := #[.func (.yield (w.heap.size + 1)) #[] #[]] }, W0, gf, #[.func (.yield (w.heap.size + 1)) #[] #[]] ++ lb, W0, ?_, ?_, ?_, ?_, fun _ => h1, ?_⟩
  · rw [hW0, hr0]; exact run_enterLoop_outer _ _ _ _ _
  · simp only [resolve, hg]
    simp [go_sem]
  · intro f' hf'
    simp [Target.leads] at hf'
    subst hf'
    exact hFg
  · simp [invoke, go_sem, eg]
  refine (hseq (w.heap.size + 1) (fun s W => I s W ∧ W.heap[w.heap.size]? = some (.deferred (some [])) ∧ W.heap[w.heap.size + 1]? = some (.loop r0))
    (fun W => Is W ∧ W.heap[w.heap.size]? = some (.deferred (some [])) ∧ W.heap[w.heap.size + 1]? = some (.loop { r0 with state := .done, pending := some .ret })) W0 hbel0 ?_ ?_ ?_ ⟨hI _ _ _ h0 (KeepP.of_below hbel0), hD0, hL0⟩).mono ?_
  · rintro s A B ⟨hi, hd, hl⟩ hb
    have := (Array.getElem?_eq_some_iff.1 hl).1
    exact ⟨hI _ _ _ hi (KeepP.of_below hb), (hb.block _ (by omega)).trans hd, (hb.block _ (by omega)).trans hl⟩
  · rintro A B ⟨hi, hd, hl⟩ hb
    have := (Array.getElem?_eq_some_iff.1 hl).1
    exact ⟨hIs _ _ hi (KeepP.of_below hb), (hb.block _ (by omega)).trans hd, (hb.block _ (by omega)).trans hl⟩
  · rintro s x s' W hstep ⟨hi, hd, hl⟩
    have hlt : w.heap.size + 1 < W.heap.size := (Array.getElem?_eq_some_iff.1 hl).1
    have hy := run_yield (P := P) (args := encs x) hl (by rw [hr0]; exact hps x)
    rw [hr0] at hy
    refine ⟨fn, _, assign, body, hy, roundIn_of_wpIn hfn (hassign _ x W _ (fun Wa hba hsa hxa => ?_))⟩
    have hla := (hba.block _ hlt).trans hl
    have hda := (hba.block _ (show w.heap.size < W.heap.size by omega)).trans hd
    refine ⟨_, run_beginRound hla (by rw [hr0]), ?_⟩
    refine wpIn_mono (hbody _ s x s' W.heap.size _ hstep (hI _ _ _ (hI _ _ _ hi (KeepP.of_below hba)) (kput Wa _)) (hRx _ _ _ _ hxa (World.putObj_heap_other (by omega))) (by omega) (by rw [World.putObj_size]; exact hsa)) ?_
    rintro e a3 W3 ⟨hk3, hcase⟩
    have hl3 : W3.heap[w.heap.size + 1]? = some (.loop { r0 with state := .busy }) := (hk3.block _ (by omega) (fun e => by have := hst _ e; omega)).trans (World.putObj_heap_same (by omega))
    have hd3 : W3.heap[w.heap.size]? = some (.deferred (some [])) := (hk3.block _ (by omega) (fun e => by have := hst _ e; omega)).trans ((World.putObj_heap_other (by omega)).trans hda)
    have hs3 : Wa.heap.size ≤ W3.heap.size := by have := hk3.size; rw [World.putObj_size] at this; exact this
    have keep : ∀ o, KeepB w.heap.size st W (W3.putObj (w.heap.size + 1) o) := fun o => by
      refine ⟨?_, ?_, ?_, ?_, fun k hk hks => ?_⟩
      · exact hk3.os.trans hba.os
      · exact hk3.tape.trans hba.tape
      · exact hk3.output.trans hba.output
      · rw [World.putObj_size]; have := hba.size; omega
      · rw [World.putObj_heap_other (by omega), hk3.block k (by omega) hks, World.putObj_heap_other (by omega), hba.block k (by omega)]
    rcases hcase with ⟨rfl, hi3⟩ | ⟨rfl, hi3⟩
    · have he := run_endRound (P := P) none hl3
      have hr : ({ { r0 with state := .busy } with state := if (none : Option Code).isNone then .ready else .done, pending := none } : Loop) = r0 := by rw [hr0]; rfl
      rw [hr] at he
      exact ⟨_, _, he, .inl ⟨rfl, hI _ _ _ hi3 (kput _ _), (World.putObj_heap_other (by omega)).trans hd3, World.putObj_heap_same (by omega)⟩, keep _⟩
    · have he := run_endRound (P := P) (some .ret) hl3
      have hr : ({ { r0 with state := .busy } with state := if (some Code.ret : Option Code).isNone then .ready else .done, pending := some .ret } : Loop) = { r0 with state := .done, pending := some .ret } := by rw [hr0]; rfl
      rw [hr] at he
      exact ⟨_, _, he, .inr ⟨rfl, hIs _ _ hi3 (kput _ _), (World.putObj_heap_other (by omega)).trans hd3, World.putObj_heap_same (by omega)⟩, keep _⟩
  · rintro e W2 ⟨⟨v, rfl⟩, ⟨s, hend, hi, hd, hl⟩ | ⟨hi, hd, hl⟩⟩
    · have he := run_endLoop (P := P) hl (by rw [hr0]; simp)
      rw [show r0.pending = none by rw [hr0]] at he
      exact ⟨none, _, he, hdone w.heap.size s _ rfl hend (hI _ _ _ hi (kput _ _)) ((World.putObj_heap_other (by omega)).trans hd)⟩
    · have he := run_endLoop (P := P) hl (by simp)
      exact ⟨some .ret, _, he, wpIn_ret (hstop w.heap.size _ rfl (hIs _ _ hi (kput _ _)) ((World.putObj_heap_other (by omega)).trans hd))⟩
end
end Go.Proofs.Ytoajnhngcfjohaa
