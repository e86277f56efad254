/-
  A range over a function whose iterator writes into memory of its own between two rounds, and whose body writes some blocks alone and is never left early.
-/
import Derived.Test.YtoajnhngcfjohaaShaLoop
namespace Go.Proofs.Ytoajnhngcfjohaa
open Go Go.RowKit Go.Shelf

/-- All blocks but some lie as they lay. -/
structure KeepP (st : Nat → Prop) (W W' : World) : Prop where
  os : W'.os = W.os
  tape : W'.tape = W.tape
  output : W'.output = W.output
  size : W.heap.size ≤ W'.heap.size
  block : ∀ k, k < W.heap.size → ¬ st k → W'.heap[k]? = W.heap[k]?

theorem KeepP.refl (st : Nat → Prop) (W : World) : KeepP st W W := ⟨rfl, rfl, rfl, Nat.le_refl _, fun _ _ _ => rfl⟩
theorem KeepP.trans {st : Nat → Prop} {A B C : World} (h : KeepP st A B) (k : KeepP st B C) : KeepP st A C :=
  ⟨k.os.trans h.os, k.tape.trans h.tape, k.output.trans h.output, Nat.le_trans h.size k.size, fun i hi hs => (k.block i (Nat.lt_of_lt_of_le hi h.size) hs).trans (h.block i hi hs)⟩
theorem KeepP.of_below {st : Nat → Prop} {W W' : World} (h : Below W.heap.size W W') : KeepP st W W' := ⟨h.os, h.tape, h.output, h.size, fun k hk _ => h.block k hk⟩
theorem KeepP.setRow {st : Nat → Prop} {g : Nat} (hg : st g) (W : World) (cs : Array Value) : KeepP st W (W.setRow g cs) := ⟨rfl, rfl, rfl, by rw [setRow_size]; exact Nat.le_refl _, fun k _ hk => setRow_other W g k cs (fun e => hk (e ▸ hg))⟩
theorem KeepP.setCell {st : Nat → Prop} {g : Nat} (hg : st g) (W : World) (o : Nat) (v : Value) : KeepP st W (W.setCell ⟨g, o, none⟩ v) := ⟨rfl, rfl, rfl, by simp [World.setCell], fun k _ hk => Below.heap_setCell W _ v k (fun e => hk (e ▸ hg))⟩
theorem KeepP.grown {st : Nat → Prop} {g : Nat} (hg : st g) {W W' : World} (h : W.grownBy W' (some g)) : KeepP st W W' := ⟨h.os, h.tape, h.output, h.size, fun k hk hs => h.block k hk (fun e => by injection e with e; exact hs (e ▸ hg))⟩
theorem KeepP.below {st : Nat → Prop} {B : Nat} {W W' : World} (h : KeepP st W W') (hB : ∀ k, st k → B ≤ k) (hs : B ≤ W.heap.size) : Below B W W' := ⟨h.os, h.tape, h.output, h.size, fun k hk => h.block k (by omega) (fun e => by have := hB k e; omega)⟩
theorem KeepP.row {st : Nat → Prop} {g : Nat} {W W' : World} {t : TypeId} {cs : Array Value} (h : KeepP st W W') (hr : Row W g t cs) (hg : ¬ st g) : Row W' g t cs := (h.block g hr.lt hg).trans hr

section
variable {F : Fence} {n : Nat} {P : Program}

/-- What such an iterator answers: it calls its round once for each of the list, in order; what it does beside that, it does in memory of its own. -/
def TellsP {α : Type} (F : Fence) (n : Nat) (P : Program) (gf : Nat) (lb : Array Value) (encs : α → Array Value) (st : Nat → Prop) (S : List α) (w : World) : Prop :=
  ∀ (l : Nat) (J : List α → World → Prop) (W : World), Below w.heap.size w W → (∀ s A B, J s A → Below W.heap.size A B → J s B) →
    (∀ pre x W1, J pre W1 → YieldAt F (n - 1) P l (encs x) W1 fun e W' => e = .returned (.bool true) ∧ J (pre ++ [x]) W' ∧ KeepP st W1 W') → J [] W →
    CallsIn F n P gf (#[.func (.yield l) #[] #[]] ++ lb) W fun e W' => (∃ v, e = .returned v) ∧ J S W'

theorem rangeFunc_tellsP {α : Type} {g : Operand} {ps : Array Tmp} {assign body : Code} {Q : Exit → Act → World → Prop} {a : Act} {w : World}
    (hro : F.round = none) (h1 : 1 ≤ n) {gf : Nat} {lb : Array Value} (hg : a.eval g = .func (.func gf) #[] lb) (hFg : F.fn gf) (eg : ∀ args w, (callFunc gf args).run P w = .ok (.enter gf args) w)
    {encs : α → Array Value} (hps : ∀ x, (encs x).size = ps.size) (st : Nat → Prop) (hst : ∀ k, st k → k < w.heap.size) (S : List α) (hseq : TellsP F (n - 1) P gf lb encs st S w)
    (I : List α → World → Prop) (hI : ∀ s A B, I s A → Below w.heap.size A B → I s B) (h0 : I [] w) (mk : α → Nat → Act) (Rx : α → Nat → World → Prop) (hRx : ∀ x b W W', Rx x b W → W'.heap[b]? = W.heap[b]? → Rx x b W')
    (hassign : ∀ (l : Nat) (x : α) (W : World) (K : Act → World → Prop), (∀ Wa, Below W.heap.size W Wa → W.heap.size < Wa.heap.size → Rx x W.heap.size Wa → K (mk x W.heap.size) Wa) →
      assign.wpIn (F.inRound l) (n - 1 - 1) P (Exit.then K (fun _ _ _ => False)) { tmps := (ps.zip (encs x)).foldl (fun t (p, v) => t.setIfInBounds p v) a.tmps, defers := [] } W)
    (hbody : ∀ (l : Nat) (pre : List α) (x : α) (b : Nat) (W : World), I pre W → Rx x b W → w.heap.size ≤ b → b < W.heap.size →
      body.wpIn (F.inRound l) (n - 1 - 1) P (fun e _ W' => e = .normal ∧ KeepP st W W' ∧ I (pre ++ [x]) W') (mk x b) W)
    (hdone : ∀ (D : Nat) (W : World), w.heap.size ≤ D → I S W → W.heap[D]? = some (.deferred (some [])) → Q .normal { a with defers := { target := .collected D, args := #[] } :: a.defers } W) :
    (Code.rangeFunc g ps assign body).wpIn F n P Q a w := by
  refine wpIn_rangeFunc (fun fn hfn => ?_)
  rw [hro]
  obtain ⟨r0, hr0⟩ : ∃ r0 : Loop, r0 = { state := .ready, pending := none, fn, tmps := a.tmps, params := ps, assign, body, defers := w.heap.size } := ⟨_, rfl⟩
  obtain ⟨W0, hW0⟩ : ∃ W0, W0 = (w.alloc (.deferred (some []))).alloc (.loop r0) := ⟨_, rfl⟩
  have hsz : W0.heap.size = w.heap.size + 2 := by rw [hW0]; simp
  have hD0 : W0.heap[w.heap.size]? = some (.deferred (some [])) := by rw [hW0]; exact (Below.heap_alloc _ _ _ (by simp)).trans (heap_alloc_new w _)
  have hL0 : W0.heap[w.heap.size + 1]? = some (.loop r0) := by
    have := heap_alloc_new (w.alloc (.deferred (some []))) (.loop r0)
    rw [World.size_alloc] at this
    rw [hW0]; exact this
  have hbel0 : Below w.heap.size w W0 := by rw [hW0]; exact ((Below.refl _ w).alloc (Nat.le_refl _) _).alloc (by simp) _
  refine ⟨w.heap.size + 1, [{ target := .collected w.heap.size, args := #[] }], W0, { target := .fn (.func gf) lb, args := #[.func (.yield (w.heap.size + 1)) #[] #[]] }, W0, gf, #[.func (.yield (w.heap.size + 1)) #[] #[]] ++ lb, W0, ?_, ?_, ?_, ?_, fun _ => h1, ?_⟩
  · rw [hW0, hr0]; exact run_enterLoop_outer _ _ _ _ _
  · simp only [resolve, hg]
    simp [go_sem]
  · intro f' hf'
    simp [Target.leads] at hf'
    subst hf'
    exact hFg
  · simp [invoke, go_sem, eg]
  refine (hseq (w.heap.size + 1) (fun pre W => I pre W ∧ W.heap[w.heap.size]? = some (.deferred (some [])) ∧ W.heap[w.heap.size + 1]? = some (.loop r0)) W0 hbel0 ?_ ?_ ⟨hI _ _ _ h0 hbel0, hD0, hL0⟩).mono ?_
  · rintro s A B ⟨hi, hd, hl⟩ hb
    exact ⟨hI _ _ _ hi (hb.mono (by omega)), (hb.block _ (by omega)).trans hd, (hb.block _ (by omega)).trans hl⟩
  · rintro pre x W ⟨hi, hd, hl⟩
    have hlt : w.heap.size + 1 < W.heap.size := (Array.getElem?_eq_some_iff.1 hl).1
    have hy := run_yield (P := P) (args := encs x) hl (by rw [hr0]; exact hps x)
    rw [hr0] at hy
    refine ⟨fn, _, assign, body, hy, roundIn_of_wpIn hfn (hassign _ x W _ (fun Wa hba hsa hxa => ?_))⟩
    have hla := (hba.block _ hlt).trans hl
    have hda := (hba.block _ (show w.heap.size < W.heap.size by omega)).trans hd
    refine ⟨_, run_beginRound hla (by rw [hr0]), ?_⟩
    have hpb : Below w.heap.size Wa (Wa.putObj (w.heap.size + 1) (.loop { r0 with state := .busy })) := below_putObj _ (by omega) (by omega)
    refine wpIn_mono (hbody _ pre x W.heap.size _ (hI _ _ _ (hI _ _ _ hi (hba.mono (by omega))) hpb) (hRx _ _ _ _ hxa (World.putObj_heap_other (by omega))) (by omega) (by rw [World.putObj_size]; exact hsa)) ?_
    rintro e a3 W3 ⟨rfl, hk3, hi3⟩
    have hl3 : W3.heap[w.heap.size + 1]? = some (.loop { r0 with state := .busy }) := (hk3.block _ (by rw [World.putObj_size]; omega) (fun e => by have := hst _ e; omega)).trans (World.putObj_heap_same (by omega))
    have hd3 : W3.heap[w.heap.size]? = some (.deferred (some [])) := (hk3.block _ (by rw [World.putObj_size]; omega) (fun e => by have := hst _ e; omega)).trans ((World.putObj_heap_other (by omega)).trans hda)
    have he := run_endRound (P := P) none hl3
    have hr : ({ { r0 with state := .busy } with state := if (none : Option Code).isNone then .ready else .done, pending := none } : Loop) = r0 := by rw [hr0]; rfl
    rw [hr] at he
    have hs3 : Wa.heap.size ≤ W3.heap.size := by have := hk3.size; rw [World.putObj_size] at this; exact this
    have hp3 : Below w.heap.size W3 (W3.putObj (w.heap.size + 1) (.loop r0)) := below_putObj _ (by omega) (by omega)
    refine ⟨_, _, he, rfl, ⟨hI _ _ _ hi3 hp3, (World.putObj_heap_other (by omega)).trans hd3, World.putObj_heap_same (by omega)⟩, ?_⟩
    refine ⟨?_, ?_, ?_, ?_, fun k hk hks => ?_⟩
    · exact (hp3.os.trans hk3.os).trans (hpb.os.trans hba.os)
    · exact (hp3.tape.trans hk3.tape).trans (hpb.tape.trans hba.tape)
    · exact (hp3.output.trans hk3.output).trans (hpb.output.trans hba.output)
    · rw [World.putObj_size]; have := hba.size; omega
    · by_cases hkl : k = w.heap.size + 1
      · rw [hkl, World.putObj_heap_same (by omega), hl]
      · rw [World.putObj_heap_other hkl, hk3.block k (by rw [World.putObj_size]; have := hba.size; omega) hks, World.putObj_heap_other hkl, hba.block k hk]
  · rintro e W2 ⟨⟨v, rfl⟩, hi, hd, hl⟩
    have he := run_endLoop (P := P) hl (by rw [hr0]; simp)
    rw [show r0.pending = none by rw [hr0]] at he
    have hlt : w.heap.size + 1 < W2.heap.size := (Array.getElem?_eq_some_iff.1 hl).1
    exact ⟨none, _, he, hdone w.heap.size _ (Nat.le_refl _) (hI _ _ _ hi (below_putObj _ (by omega) (by omega))) ((World.putObj_heap_other (by omega)).trans hd)⟩
end
end Go.Proofs.Ytoajnhngcfjohaa
