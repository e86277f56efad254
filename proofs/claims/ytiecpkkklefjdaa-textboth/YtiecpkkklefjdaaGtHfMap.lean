/-
  The words in a map, by their bits.
-/
import Derived.Test.YtiecpkkklefjdaaGtHfWordsW
import Derived.Maps.OwnSet
import Derived.DeepKeys4
namespace Go.Proofs.Ytiecpkkklefjdaa
open Go Go.RowKit Go.Maps

theorem laidOut10 : laidOutB Try.prog = true := by kernel_rfl
theorem lawW : Keyed Try.prog 81 := Keyed.of_law (deep_law_laid laidOut10 (m := 2) (by omega) (of_decide_eq_true (by kernel_rfl)) (by kernel_rfl) (by kernel_rfl))
theorem zeroI (w : World) : (zeroValue 3).run Try.prog w = .ok (.int .i64 0) w := by kernel_rfl
def wv (n v : Nat) : Value := .agg #[.int .i64 (n : Int), .int .u32 (v : Int)]
/-- The key of a word. -/
def kw (n v : Nat) : Lit := .string (keyBytes [.int .i64 (n : Int), .int .u32 (v : Int)])
theorem kw_is (n v : Nat) : WideAt.IsKeyLit (kw n v) := trivial
structure InW (n v : Nat) : Prop where
  n : n < 9223372036854775808
  v : v < 4294967296
theorem wf_i {n : Nat} (h : n < 9223372036854775808) : (Lit.int .i64 (n : Int)).wf = true := WalkArith.wf_i64 (by omega)
theorem wf_u {v : Nat} (h : v < 4294967296) : (Lit.int .u32 (v : Int)).wf = true := WalkArith.wf_u32 (by omega)
theorem wv_key {n v : Nat} (h : InW n v) : keyOf Try.prog 81 (wv n v) = some (kw n v) := by
  have w1 := wf_i h.n
  have w2 := wf_u h.v
  have hk : Try.prog.keyType 81 = true := by kernel_rfl
  have hc : Try.prog.cellsOf 81 = 2 := by kernel_rfl
  have hc3 : Try.prog.cellsOf 3 = 1 := by kernel_rfl
  have hc41 : Try.prog.cellsOf 36 = 1 := by kernel_rfl
  obtain ⟨m, hm⟩ : ∃ m, Try.prog.types.size = m + 1 := ⟨Try.prog.types.size - 1, by kernel_rfl⟩
  unfold keyOf
  simp only [Try.underlying81]
  rw [if_pos (by simp [hk, Value.formed, Try.underlying81, hc, wv]), hm]
  unfold Program.keyLits
  simp only [Try.underlying81, wv, Value.cells]
  rw [if_pos ⟨by rw [hc]; rfl, by simp⟩]
  simp [Program.keyLits, Try.underlying3, Try.underlying36, hc3, hc41, w1, w2, kw]
theorem kw_inj {n v n' v' : Nat} (h : InW n v) (h' : InW n' v') (e : kw n v = kw n' v') : n = n' ∧ v = v' := by
  have := lawW.inj (wv_key h) (by rw [e]; exact wv_key h')
  unfold wv at this
  injection this with this
  have h1 := congrArg (fun a : Array Value => a[0]?) this
  have h2 := congrArg (fun a : Array Value => a[1]?) this
  simp at h1 h2
  omega

/-- A map that holds just these numbers. -/
structure RepW (D : DataW Unit) (f : Nat → Nat → Option Nat) : Prop where
  no : ∀ n v, InW n v → f n v = none → Maps.has D (kw n v) = false
  yes : ∀ n v i, InW n v → f n v = some i → Maps.has D (kw n v) = true
  at_ : ∀ n v i z, InW n v → f n v = some i → D.atKey (kw n v) z = .lit (.int .i64 (i : Int))
def oi : Option Nat → Nat
  | none => 0
  | some i => i
def MapW (w : World) (m : Nat) (f : Nat → Nat → Option Nat) (N : Nat) : Prop := ∃ D : DataW Unit, w.ownsMap Try.prog 81 (plainElem Try.prog 3) m N D ∧ RepW D f ∧ Maps.size D = N
theorem MapW.lt {w : World} {m N : Nat} {f : Nat → Nat → Option Nat} (h : MapW w m f N) : m < w.heap.size := by
  obtain ⟨D, h1, _, _⟩ := h
  exact h1.lt
theorem MapW.same {w w' : World} {m N : Nat} {f : Nat → Nat → Option Nat} (h : MapW w m f N) (hs : w'.heap[m]? = w.heap[m]?) : MapW w' m f N := by
  obtain ⟨D, ⟨es, clock, h1, h2, h3, h4⟩, h5, h6⟩ := h
  exact ⟨D, ⟨es, clock, hs.trans h1, h2, h3, h4⟩, h5, h6⟩
theorem MapW.new (w : World) : MapW (w.alloc (.map #[] 0)) w.heap.size (fun _ _ => none) 0 :=
  ⟨.map [], World.ownsMap_made w _ _ _, ⟨fun _ _ _ _ => rfl, (fun _ _ _ _ h => by cases h), (fun _ _ _ _ _ h => by cases h)⟩, rfl⟩
set_option maxRecDepth 20000 in
theorem MapW.look {w : World} {m N : Nat} {f : Nat → Nat → Option Nat} (h : MapW w m f N) {n v : Nat} (hk : InW n v) :
    (Instr.lookup 88 (.map (some m)) (.agg #[.int .i64 (n : Int), .int .u32 (v : Int)]) true).run Try.prog w = .ok (.tuple #[.int .i64 (oi (f n v) : Int), .bool (f n v).isSome]) w := by
  obtain ⟨D, h1, h2, h3⟩ := h
  obtain ⟨x, ps, hrun, hv⟩ := h1.look_ok lawW Try.underlying88 (zeroI w) (zd := .lit (.int .i64 0)) (zp := []) (plainElem_int Try.underlying3 (by decide)) (wv_key hk)
  obtain ⟨c, rfl, hc, hwc⟩ := plainElem_int_inv Try.underlying3 hv
  simp only [Prod.mk.injEq] at hc
  unfold wv at hrun
  rw [hrun]
  cases hf : f n v with
  | none =>
    have h4 := h2.no n v hk hf
    rw [h4]
    have h5 := hc.1
    rw [atKey_of_not_has h4] at h5
    injection h5 with h5
    injection h5 with _ h5
    subst h5
    rfl
  | some i =>
    have h4 := h2.yes n v i hk hf
    rw [h4]
    have h5 := hc.1
    rw [h2.at_ n v i _ hk hf] at h5
    injection h5 with h5
    injection h5 with _ h5
    subst h5
    rfl
theorem MapW.store {w : World} {m N : Nat} {f f' : Nat → Nat → Option Nat} (h : MapW w m f N) {n v : Nat} (hk : InW n v) (hN : N < maxLen) {i : Nat} (hi : i < 9223372036854775808) (hf : f n v = none) (hf' : f' n v = some i) (ho : ∀ a b, ¬ (a = n ∧ b = v) → f' a b = f a b) :
    ∃ w', (Instr.mapUpdate 88 (.map (some m)) (.agg #[.int .i64 (n : Int), .int .u32 (v : Int)]) (.int .i64 (i : Int))).run Try.prog w = .ok () w' ∧ MapW w' m f' (N + 1) ∧ w.grownBy w' (some m) := by
  obtain ⟨D, h1, h2, h3⟩ := h
  obtain ⟨w', hrun, h4, h5⟩ := h1.update lawW Try.underlying88 hN (wv_key hk) (plainElem_int Try.underlying3 (wf_i hi))
  unfold wv at hrun
  refine ⟨w', hrun, ⟨_, h4, ⟨fun a b hx hn => ?_, fun a b c hx hc => ?_, fun a b c z hx hc => ?_⟩, ?_⟩, h5⟩
  · have e : ¬ (a = n ∧ b = v) := fun e => by rw [e.1, e.2, hf'] at hn; cases hn
    rw [has_put_other (fun c => e (kw_inj hx hk c))]
    exact h2.no a b hx ((ho a b e).symm.trans hn)
  · by_cases e : a = n ∧ b = v
    · rw [e.1, e.2]; exact has_put_same h1.isMap (kw_is _ _) _
    · rw [has_put_other (fun c => e (kw_inj hx hk c))]
      exact h2.yes a b c hx ((ho a b e).symm.trans hc)
  · by_cases e : a = n ∧ b = v
    · rw [e.1, e.2, atKey_put_same h1.isMap (kw_is _ _)]
      rw [e.1, e.2, hf'] at hc
      cases hc
      rfl
    · rw [atKey_put_other (fun c => e (kw_inj hx hk c))]
      exact h2.at_ a b c z hx ((ho a b e).symm.trans hc)
  · rw [size_put (h1.tidy lawW), h2.no n v hk hf, h3]
    rfl

/-- The first so many words. -/
def symTo (k n v : Nat) : Option Nat := (Hf.sym n v).filter (fun i => decide (i < k))
theorem sym_some' {n v i : Nat} (hs : Hf.sym n v = some i) : i < 257 ∧ Hf.sz i = n ∧ Hf.val i = v := by
  by_cases h : n ≤ 30
  · exact Hf.sym_some h hs
  · unfold Hf.sym at hs
    have : Hf.symAt n = [] := by
      unfold Hf.symAt
      rw [List.getElem?_eq_none (by rw [show Hf.symL.length = 31 by decide +kernel]; omega)]
      rfl
    rw [this] at hs
    split at hs <;> simp at hs
theorem symTo_zero : symTo 0 = fun _ _ => none := by
  funext n v
  unfold symTo
  cases Hf.sym n v <;> rfl
theorem symTo_all : symTo 257 = Hf.sym := by
  funext n v
  unfold symTo
  cases h : Hf.sym n v with
  | none => rfl
  | some i => simp [Option.filter, (sym_some' h).1]
theorem symTo_no {k : Nat} (h : k < 257) : symTo k (Hf.sz k) (Hf.val k) = none := by
  unfold symTo
  rw [(Hf.word_ok h).2.2.2.2]
  simp [Option.filter]
theorem symTo_new {k : Nat} (h : k < 257) : symTo (k + 1) (Hf.sz k) (Hf.val k) = some k := by
  unfold symTo
  rw [(Hf.word_ok h).2.2.2.2]
  simp [Option.filter]
theorem symTo_other {k : Nat} (a b : Nat) (h : ¬ (a = Hf.sz k ∧ b = Hf.val k)) : symTo (k + 1) a b = symTo k a b := by
  unfold symTo
  cases hs : Hf.sym a b with
  | none => rfl
  | some i =>
    have := sym_some' hs
    have hne : i ≠ k := fun e => by subst e; exact h ⟨this.2.1.symm, this.2.2.symm⟩
    by_cases c : i < k
    · simp [Option.filter, c, show i < k + 1 by omega]
    · simp [Option.filter, c, show ¬ i < k + 1 by omega]
end Go.Proofs.Ytiecpkkklefjdaa
