/-
  A range over a function, where the iterator has memory of its own that the body leaves alone (the blocks M), and the body has memory of its own that the iterator leaves alone; the body may leave by a return.
-/
import Derived.Test.YtoajnhngcfjohaaRgLoop
namespace Go.Proofs.Ytoajnhngcfjohaa
open Go Go.RowKit Go.Shelf

/-- What a round leaves: the first blocks, but for some, and the iterator's. -/
structure KeepY (B : Nat) (st M : Nat → Prop) (W W' : World) : Prop where
  os : W'.os = W.os
  tape : W'.tape = W.tape
  output : W'.output = W.output
  size : W.heap.size ≤ W'.heap.size
  block : ∀ k, k < W.heap.size → (k < B ∧ ¬ st k ∨ M k) → W'.heap[k]? = W.heap[k]?
theorem KeepY.refl (B : Nat) (st M : Nat → Prop) (W : World) : KeepY B st M W W := ⟨rfl, rfl, rfl, Nat.le_refl _, fun _ _ _ => rfl⟩
theorem KeepY.trans {B : Nat} {st M : Nat → Prop} {A C D : World} (h : KeepY B st M A C) (k : KeepY B st M C D) : KeepY B st M A D :=
  ⟨k.os.trans h.os, k.tape.trans h.tape, k.output.trans h.output, Nat.le_trans h.size k.size, fun i hi hs => (k.block i (Nat.lt_of_lt_of_le hi h.size) hs).trans (h.block i hi hs)⟩
theorem KeepY.of_below {B : Nat} {st M : Nat → Prop} {W W' : World} (h : Below W.heap.size W W') : KeepY B st M W W' := ⟨h.os, h.tape, h.output, h.size, fun k hk _ => h.block k hk⟩
theorem KeepY.setCell {B : Nat} {st M : Nat → Prop} {g : Nat} (hg : st g ∨ B ≤ g) (hm : ¬ M g) (W : World) (o : Nat) (v : Value) : KeepY B st M W (W.setCell ⟨g, o, none⟩ v) :=
  ⟨rfl, rfl, rfl, by simp [World.setCell], fun k _ hk => Below.heap_setCell W _ v k (fun e => by
    simp only at e
    subst e
    rcases hk with ⟨h1, h2⟩ | h
    · exact hg.elim h2 (fun h => by omega)
    · exact hm h)⟩
/-- What the iterator leaves: all that is not its own. -/
structure KeepM (M : Nat → Prop) (W W' : World) : Prop where
  os : W'.os = W.os
  tape : W'.tape = W.tape
  output : W'.output = W.output
  size : W.heap.size ≤ W'.heap.size
  block : ∀ k, k < W.heap.size → ¬ M k → W'.heap[k]? = W.heap[k]?
theorem KeepM.of_below {M : Nat → Prop} {W W' : World} (h : Below W.heap.size W W') : KeepM M W W' := ⟨h.os, h.tape, h.output, h.size, fun k hk _ => h.block k hk⟩
/-- Its blocks, behind that. -/
def newM (M : Nat → Prop) (W W' : World) (k : Nat) : Prop := M k ∨ (W.heap.size ≤ k ∧ k < W'.heap.size)

section
variable {P : Program}
def YieldW (P : Program) (l : Nat) (args : Array Value) (W : World) (R : Ending → World → Prop) : Prop := ∀ m, YieldAt Fence.wide m P l args W R
theorem yieldW_of {m l : Nat} {args : Array Value} {W : World} {R : Ending → World → Prop} (h : YieldAt Fence.wide m P l args W R) : YieldW P l args W R := fun _ => by
  obtain ⟨fn, tmps, assign, body, hy, hr⟩ := h
  exact ⟨fn, tmps, assign, body, hy, hr.1, fun c cs _ => hr.2 c cs (room_wide _)⟩

/-- What such an iterator answers. -/
def TellsM {σ α : Type} (P : Program) (gf : Nat) (lb : Array Value) (encs : α → Array Value) (st : Nat → Prop) (Step : σ → α → σ → Prop) (End : σ → Prop) (s0 : σ) (w : World) : Prop :=
  ∀ (n l : Nat) (J : σ → (Nat → Prop) → World → Prop) (Js : (Nat → Prop) → World → Prop) (W : World), Below w.heap.size w W → (∀ s M A B, J s M A → KeepM M A B → J s (newM M A B) B) → (∀ M A B, Js M A → KeepM M A B → Js (newM M A B) B) →
    (∀ s x s' M W1, Step s x s' → J s M W1 → YieldW P l (encs x) W1 fun e W' => (e = .returned (.bool true) ∧ J s' M W' ∨ e = .returned (.bool false) ∧ Js M W') ∧ KeepY w.heap.size st M W1 W') → J s0 (fun _ => False) W →
    CallsIn Fence.wide n P gf (#[.func (.yield l) #[] #[]] ++ lb) W fun e W' => (∃ v, e = .returned v) ∧ ((∃ s M, End s ∧ J s M W') ∨ ∃ M, Js M W')

theorem rangeFunc_tellsM {σ α : Type} {n : Nat} {g : Operand} {ps : Array Tmp} {assign body : Code} {Q : Exit → Act → World → Prop} {a : Act} {w : World}
    {gf : Nat} {lb : Array Value} (hg : a.eval g = .func (.func gf) #[] lb) (eg : ∀ args w, (callFunc gf args).run P w = .ok (.enter gf args) w)
    {encs : α → Array Value} (hps : ∀ x, (encs x).size = ps.size) (st : Nat → Prop) (hst : ∀ k, st k → k < w.heap.size) {Step : σ → α → σ → Prop} {End : σ → Prop} {s0 : σ} (hseq : TellsM P gf lb encs st Step End s0 w)
    (I : σ → (Nat → Prop) → World → Prop) (Is : (Nat → Prop) → World → Prop) (hI : ∀ s M A B, I s M A → KeepP (fun k => k = w.heap.size + 1) A B → I s M B) (hIs : ∀ M A B, Is M A → KeepP (fun k => k = w.heap.size + 1) A B → Is M B)
    (hIm : ∀ s M A B, I s M A → KeepM M A B → I s (newM M A B) B) (hIsm : ∀ M A B, Is M A → KeepM M A B → Is (newM M A B) B) (h0 : I s0 (fun _ => False) w)
    (mk : α → Nat → Act) (Rx : α → Nat → World → Prop) (hRx : ∀ x b W W', Rx x b W → W'.heap[b]? = W.heap[b]? → Rx x b W')
    (hassign : ∀ (l : Nat) (x : α) (W : World) (K : Act → World → Prop), (∀ Wa, Below W.heap.size W Wa → Rx x W.heap.size Wa → K (mk x W.heap.size) Wa) →
      assign.wpIn (Fence.wide.inRound l) (n - 1 - 1) P (Exit.then K (fun _ _ _ => False)) { tmps := (ps.zip (encs x)).foldl (fun t (p, v) => t.setIfInBounds p v) a.tmps, defers := [] } W)
    (hbody : ∀ (l : Nat) (s : σ) (x : α) (s' : σ) (M : Nat → Prop) (V W : World), Step s x s' → I s M V → KeepP (fun k => k = w.heap.size + 1) V W → Rx x V.heap.size W → w.heap.size + 2 ≤ V.heap.size → (∀ k, M k → w.heap.size + 2 ≤ k ∧ k < V.heap.size) →
      body.wpIn (Fence.wide.inRound l) (n - 1 - 1) P (fun e _ W' => KeepY (w.heap.size + 2) st M W W' ∧ (e = .normal ∧ I s' M W' ∨ e = .ret ∧ Is M W')) (mk x V.heap.size) W)
    (hdone : ∀ (D : Nat) (s : σ) (M : Nat → Prop) (W : World), D = w.heap.size → End s → I s M W → W.heap[D]? = some (.deferred (some [])) → Q .normal { a with defers := { target := .collected D, args := #[] } :: a.defers } W)
    (hstop : ∀ (D : Nat) (M : Nat → Prop) (W : World), D = w.heap.size → Is M W → W.heap[D]? = some (.deferred (some [])) → Q .ret { a with defers := { target := .collected D, args := #[] } :: a.defers } W) :
    (Code.rangeFunc g ps assign body).wpIn Fence.wide n P Q a w := by
  refine wpIn_rangeFunc (fun fn hfn => ?_)
  rw [show Fence.wide.round = none from rfl]
  obtain ⟨r0, hr0⟩ : ∃ r0 : Loop, r0 = { state := .ready, pending := none, fn, tmps := a.tmps, params := ps, assign, body, defers := w.heap.size } := ⟨_, rfl⟩
  obtain ⟨W0, hW0⟩ : ∃ W0, W0 = (w.alloc (.deferred (some []))).alloc (.loop r0) := ⟨_, rfl⟩
  have hsz : W0.heap.size = w.heap.size + 2 := by rw [hW0]; simp
  have hD0 : W0.heap[w.heap.size]? = some (.deferred (some [])) := by rw [hW0]; exact (Below.heap_alloc _ _ _ (by simp)).trans (heap_alloc_new w _)
  have hL0 : W0.heap[w.heap.size + 1]? = some (.loop r0) := by
    have := heap_alloc_new (w.alloc (.deferred (some []))) (.loop r0)
    rw [World.size_alloc] at this
    rw [hW0]; exact this
  have hbel0 : Below w.heap.size w W0 := by rw [hW0]; exact ((Below.refl _ w).alloc (Nat.le_refl _) _).alloc (by simp) _
  have kput : ∀ (W : World) (o : Obj), KeepP (fun k => k = w.heap.size + 1) W (W.putObj (w.heap.size + 1) o) := fun W o => ⟨rfl, rfl, rfl, by rw [World.putObj_size]; exact Nat.le_refl _, fun k _ hk => World.putObj_heap_other hk⟩
  refine ⟨w.heap.size + 1, [{ target := .collected w.heap.size, args := #[] }], W0, { target := .fn (.func gf) lb, args := #[.func (.yield (w.heap.size + 1)) #[] #[]] }, W0, gf, #[.func (.yield (w.heap.size + 1)) #[] #[]] ++ lb, W0, ?_, ?_, ?_, ?_, (fun h => by simp [Fence.wide] at h), ?_⟩
  · rw [hW0, hr0]; exact run_enterLoop_outer _ _ _ _ _
  · simp only [resolve, hg]
    simp [go_sem]
  · intro f' hf'
    exact trivial
  · simp [invoke, go_sem, eg]
  refine (hseq (n - 1) (w.heap.size + 1) (fun s M W => I s M W ∧ (∀ k, M k → w.heap.size + 2 ≤ k ∧ k < W.heap.size) ∧ W.heap[w.heap.size]? = some (.deferred (some [])) ∧ W.heap[w.heap.size + 1]? = some (.loop r0))
    (fun M W => Is M W ∧ (∀ k, M k → w.heap.size + 2 ≤ k ∧ k < W.heap.size) ∧ W.heap[w.heap.size]? = some (.deferred (some [])) ∧ W.heap[w.heap.size + 1]? = some (.loop { r0 with state := .done, pending := some .ret })) W0 hbel0 ?_ ?_ ?_ ⟨hI _ _ _ _ h0 (KeepP.of_below hbel0), (fun k h => h.elim), hD0, hL0⟩).mono ?_
  · rintro s M A B ⟨hi, hm, hd, hl⟩ hb
    have hlt := (Array.getElem?_eq_some_iff.1 hl).1
    have hbs := hb.size
    refine ⟨hIm _ _ _ _ hi hb, ?_, (hb.block _ (by omega) (fun c => by have := hm _ c; omega)).trans hd, (hb.block _ (by omega) (fun c => by have := hm _ c; omega)).trans hl⟩
    rintro k (hk | ⟨h1, h2⟩)
    · have := hm k hk; omega
    · omega
  · rintro M A B ⟨hi, hm, hd, hl⟩ hb
    have hlt := (Array.getElem?_eq_some_iff.1 hl).1
    have hbs := hb.size
    refine ⟨hIsm _ _ _ hi hb, ?_, (hb.block _ (by omega) (fun c => by have := hm _ c; omega)).trans hd, (hb.block _ (by omega) (fun c => by have := hm _ c; omega)).trans hl⟩
    rintro k (hk | ⟨h1, h2⟩)
    · have := hm k hk; omega
    · omega
  · rintro s x s' M W hstep ⟨hi, hm, hd, hl⟩
    refine yieldW_of (m := n - 1 - 1) ?_
    have hlt : w.heap.size + 1 < W.heap.size := (Array.getElem?_eq_some_iff.1 hl).1
    have hy := run_yield (P := P) (args := encs x) hl (by rw [hr0]; exact hps x)
    rw [hr0] at hy
    refine ⟨fn, _, assign, body, hy, roundIn_of_wpIn hfn (hassign _ x W _ (fun Wa hba hxa => ?_))⟩
    have hla := (hba.block _ hlt).trans hl
    have hda := (hba.block _ (show w.heap.size < W.heap.size by omega)).trans hd
    have hsa := hba.size
    refine ⟨_, run_beginRound hla (by rw [hr0]), ?_⟩
    refine wpIn_mono (hbody _ s x s' M W _ hstep hi ((KeepP.of_below hba).trans (kput Wa _)) (hRx _ _ _ _ hxa (World.putObj_heap_other (by omega))) (by omega) hm) ?_
    rintro e a3 W3 ⟨hk3, hcase⟩
    have hl3 : W3.heap[w.heap.size + 1]? = some (.loop { r0 with state := .busy }) := (hk3.block _ (by rw [World.putObj_size]; omega) (.inl ⟨by omega, fun e => by have := hst _ e; omega⟩)).trans (World.putObj_heap_same (by omega))
    have hd3 : W3.heap[w.heap.size]? = some (.deferred (some [])) := (hk3.block _ (by rw [World.putObj_size]; omega) (.inl ⟨by omega, fun e => by have := hst _ e; omega⟩)).trans ((World.putObj_heap_other (by omega)).trans hda)
    have hs3 : Wa.heap.size ≤ W3.heap.size := by have := hk3.size; rw [World.putObj_size] at this; exact this
    have hm3 : ∀ k, M k → w.heap.size + 2 ≤ k ∧ k < W3.heap.size := fun k hk => by have := hm k hk; omega
    have keep : ∀ o, KeepY w.heap.size st M W (W3.putObj (w.heap.size + 1) o) := fun o => by
      refine ⟨?_, ?_, ?_, ?_, fun k hk hks => ?_⟩
      · exact hk3.os.trans hba.os
      · exact hk3.tape.trans hba.tape
      · exact hk3.output.trans hba.output
      · rw [World.putObj_size]; omega
      · have hne : k ≠ w.heap.size + 1 := by
          rcases hks with ⟨h1, _⟩ | h1
          · omega
          · have := hm k h1; omega
        rw [World.putObj_heap_other hne, hk3.block k (by rw [World.putObj_size]; omega) (hks.elim (fun h => .inl ⟨by omega, h.2⟩) .inr), World.putObj_heap_other hne, hba.block k (by omega)]
    rcases hcase with ⟨rfl, hi3⟩ | ⟨rfl, hi3⟩
    · have he := run_endRound (P := P) none hl3
      have hr : ({ { r0 with state := .busy } with state := if (none : Option Code).isNone then .ready else .done, pending := none } : Loop) = r0 := by rw [hr0]; rfl
      rw [hr] at he
      exact ⟨_, _, he, .inl ⟨rfl, hI _ _ _ _ hi3 (kput _ _), (fun k hk => by rw [World.putObj_size]; exact hm3 k hk), (World.putObj_heap_other (by omega)).trans hd3, World.putObj_heap_same (by omega)⟩, keep _⟩
    · have he := run_endRound (P := P) (some .ret) hl3
      have hr : ({ { r0 with state := .busy } with state := if (some Code.ret : Option Code).isNone then .ready else .done, pending := some .ret } : Loop) = { r0 with state := .done, pending := some .ret } := by rw [hr0]; rfl
      rw [hr] at he
      exact ⟨_, _, he, .inr ⟨rfl, hIs _ _ _ hi3 (kput _ _), (fun k hk => by rw [World.putObj_size]; exact hm3 k hk), (World.putObj_heap_other (by omega)).trans hd3, World.putObj_heap_same (by omega)⟩, keep _⟩
  · rintro e W2 ⟨⟨v, rfl⟩, ⟨s, M, hend, hi, hm, hd, hl⟩ | ⟨M, hi, hm, hd, hl⟩⟩
    · have he := run_endLoop (P := P) hl (by rw [hr0]; simp)
      rw [show r0.pending = none by rw [hr0]] at he
      exact ⟨none, _, he, hdone w.heap.size s M _ rfl hend (hI _ _ _ _ hi (kput _ _)) ((World.putObj_heap_other (by omega)).trans hd)⟩
    · have he := run_endLoop (P := P) hl (by simp)
      exact ⟨some .ret, _, he, wpIn_ret (hstop w.heap.size M _ rfl (hIs _ _ _ hi (kput _ _)) ((World.putObj_heap_other (by omega)).trans hd))⟩
end
end Go.Proofs.Ytoajnhngcfjohaa
