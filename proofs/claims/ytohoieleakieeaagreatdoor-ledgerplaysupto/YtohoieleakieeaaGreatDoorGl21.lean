/-
  Out of LgTrack, LgTakeP.
-/
import Derived.Test.YtohoieleakieeaaGreatDoorGl5
import Derived.Test.YtohoieleakieeaaGreatDoorGl8
import Derived.Sort.BigQuietIn

/-! Packets are gone through, and some of them taken out, in place. No program in sight. -/
namespace Go.Proofs.YtohoieleakieeaaGreatDoor.Lg

/-- What was told, and what stays, of the first ones. -/
def tl (way : List Pk) (X : Pk → Bool) (i : Nat) : List Pk := (way.take i).filter X
def sl (way : List Pk) (X : Pk → Bool) (i : Nat) : List Pk := (way.take i).filter fun p => !X p
def asum (l : List Pk) : Nat := ((l.filter (·.asks)).map (·.size)).sum
def askA (way : List Pk) (X : Pk → Bool) (i : Nat) : Nat := asum (sl way X i ++ way.drop i)
theorem asum_append (a b : List Pk) : asum (a ++ b) = asum a + asum b := by unfold asum; rw [List.filter_append, List.map_append, List.sum_append]
theorem asum_cons (p : Pk) (l : List Pk) : asum (p :: l) = (if p.asks then p.size else 0) + asum l := by
  unfold asum
  rw [List.filter_cons]
  cases p.asks
  · simp
  · simp
structure Zt (way : List Pk) (X : Pk → Bool) (i : Nat) (Z : List Pk) : Prop where
  len : Z.length = way.length
  ile : i ≤ way.length
  st : Z.take (sl way X i).length = sl way X i
  dr : Z.drop i = way.drop i
theorem sl_le (way : List Pk) (X : Pk → Bool) (i : Nat) (hi : i ≤ way.length) : (sl way X i).length ≤ i := by
  have := List.length_filter_le (fun p => !X p) (way.take i)
  rw [List.length_take] at this
  unfold sl
  omega
theorem Zt.zero (way : List Pk) (X : Pk → Bool) : Zt way X 0 way := ⟨rfl, Nat.zero_le _, by simp [sl], rfl⟩
theorem Zt.get {way : List Pk} {X : Pk → Bool} {i : Nat} {Z : List Pk} (h : Zt way X i Z) : Z[i]? = way[i]? := by
  have h1 := congrArg (fun l : List Pk => l[0]?) h.dr
  simp only [List.getElem?_drop, Nat.add_zero] at h1
  exact h1
theorem sl_succ {way : List Pk} {X : Pk → Bool} {i : Nat} {p : Pk} (hp : way[i]? = some p) : sl way X (i + 1) = if X p then sl way X i else sl way X i ++ [p] := by
  unfold sl
  rw [List.take_add_one, hp, List.filter_append]
  cases hx : X p
  · simp [hx]
  · simp [hx]
theorem tl_succ {way : List Pk} {X : Pk → Bool} {i : Nat} {p : Pk} (hp : way[i]? = some p) : tl way X (i + 1) = if X p then tl way X i ++ [p] else tl way X i := by
  unfold tl
  rw [List.take_add_one, hp, List.filter_append]
  cases hx : X p
  · simp [hx]
  · simp [hx]
theorem drop_at {way : List Pk} {i : Nat} {p : Pk} (hp : way[i]? = some p) : way.drop i = p :: way.drop (i + 1) := by
  obtain ⟨h, e⟩ := List.getElem?_eq_some_iff.1 hp
  rw [List.drop_eq_getElem_cons h, e]
theorem Zt.go {way : List Pk} {X : Pk → Bool} {i : Nat} {Z : List Pk} (h : Zt way X i Z) {p : Pk} (hp : way[i]? = some p) (hx : X p = true) : Zt way X (i + 1) Z := by
  have hi := (List.getElem?_eq_some_iff.1 hp).1
  refine ⟨h.len, hi, ?_, ?_⟩
  · rw [sl_succ hp, if_pos hx]; exact h.st
  · have := congrArg (fun l : List Pk => l.drop 1) h.dr
    simp only [List.drop_drop] at this
    exact this
theorem Zt.stay {way : List Pk} {X : Pk → Bool} {i : Nat} {Z : List Pk} (h : Zt way X i Z) {p : Pk} (hp : way[i]? = some p) (hx : X p = false) : Zt way X (i + 1) (Z.set (sl way X i).length p) := by
  have hi := (List.getElem?_eq_some_iff.1 hp).1
  have hs := sl_le way X i h.ile
  have hsl : sl way X (i + 1) = sl way X i ++ [p] := by rw [sl_succ hp, if_neg (by rw [hx]; decide)]
  refine ⟨by rw [List.length_set]; exact h.len, hi, ?_, ?_⟩
  · rw [hsl, List.length_append, List.length_singleton, List.take_add_one, List.take_set_of_le (Nat.le_refl _), h.st, List.getElem?_set_self (by rw [h.len]; omega)]
    rfl
  · rw [List.drop_set_of_lt (by omega)]
    have := congrArg (fun l : List Pk => l.drop 1) h.dr
    simp only [List.drop_drop] at this
    exact this
theorem askA_stay {way : List Pk} {X : Pk → Bool} {i : Nat} {p : Pk} (hp : way[i]? = some p) (hx : X p = false) : askA way X (i + 1) = askA way X i := by
  unfold askA
  rw [sl_succ hp, if_neg (by rw [hx]; decide), drop_at hp, List.append_assoc]
  rfl
theorem askA_go {way : List Pk} {X : Pk → Bool} {i : Nat} {p : Pk} (hp : way[i]? = some p) (hx : X p = true) : askA way X i = (if p.asks then p.size else 0) + askA way X (i + 1) := by
  unfold askA
  rw [sl_succ hp, if_pos hx, drop_at hp, asum_append, asum_append, asum_cons]
  omega
theorem tl_step {way : List Pk} {X : Pk → Bool} {i : Nat} {p : Pk} (hp : way[i]? = some p) (hx : X p = true) : (way.filter X)[(tl way X i).length]? = some p := by
  have : way.filter X = tl way X i ++ (way.drop i).filter X := by unfold tl; rw [← List.filter_append, List.take_append_drop]
  rw [this, drop_at hp, List.filter_cons, if_pos hx, List.getElem?_append_right (Nat.le_refl _), Nat.sub_self]
  rfl
/-- Where none of the rest is taken out. -/
theorem rest_none {way : List Pk} {X : Pk → Bool} {i : Nat} (h : ∀ p ∈ way.drop i, X p = false) : tl way X i = way.filter X ∧ sl way X i ++ way.drop i = way.filter (fun p => !X p) := by
  unfold tl sl
  constructor
  · conv => rhs; rw [← List.take_append_drop i way, List.filter_append]
    rw [show (way.drop i).filter X = [] from List.filter_eq_nil_iff.2 (fun p hp => by rw [h p hp]; decide), List.append_nil]
  · conv => rhs; rw [← List.take_append_drop i way, List.filter_append]
    rw [show (way.drop i).filter (fun p => !X p) = way.drop i from List.filter_eq_self.2 (fun p hp => by rw [h p hp]; rfl)]
theorem rest_up {way : List Pk} (hup : (way.map (·.num)).Pairwise (· < ·)) {i e : Nat} (h : ∀ p, way[i]? = some p → e ≤ p.num) : ∀ p ∈ way.drop i, e ≤ p.num := by
  intro q hq
  obtain ⟨j, hj⟩ := List.mem_iff_getElem?.1 hq
  rw [List.getElem?_drop] at hj
  have hlt := (List.getElem?_eq_some_iff.1 hj).1
  obtain ⟨p, hp⟩ : ∃ p, way[i]? = some p := ⟨_, List.getElem?_eq_getElem (by omega)⟩
  have h1 := h p hp
  by_cases c : j = 0
  · subst c
    rw [Nat.add_zero, hp] at hj
    injection hj with hj
    subst hj
    exact h1
  · have := List.pairwise_iff_getElem.1 hup i (i + j) (by rw [List.length_map]; omega) (by rw [List.length_map]; omega) (by omega)
    rw [List.getElem_map, List.getElem_map] at this
    have e1 : way[i] = p := Option.some.inj ((List.getElem?_eq_getElem (by omega)).symm.trans hp)
    have e2 : way[i + j] = q := Option.some.inj ((List.getElem?_eq_getElem hlt).symm.trans hj)
    rw [e1, e2] at this
    omega
end Go.Proofs.YtohoieleakieeaaGreatDoor.Lg

/-! What holds while packets are gone through and some of them are taken out. Written by mklgtake.py. -/
namespace Go.Proofs.YtohoieleakieeaaGreatDoor
open Go Go.RowKit Go.Shelf

/-- The boxes of takeOut. -/
structure TkW (B1 B2 B3 g e : Nat) (fv : Value) (W : World) : Prop where
  b1 : Row W B1 28 #[.pointer (some ⟨g, 0, none⟩)]
  b2 : Row W B2 23 #[.int .u64 (e : Int)]
  b3 : Row W B3 86 #[fv]
theorem TkW.same {B1 B2 B3 g e : Nat} {fv : Value} {W W' : World} (h : TkW B1 B2 B3 g e fv W) (k1 : W'.heap[B1]? = W.heap[B1]?) (k2 : W'.heap[B2]? = W.heap[B2]?) (k3 : W'.heap[B3]? = W.heap[B3]?) : TkW B1 B2 B3 g e fv W' := ⟨k1.trans h.b1, k2.trans h.b2, k3.trans h.b3⟩
/-- Where the boxes lie. -/
structure TkB (B1 B2 B3 z : Nat) (M0 st : Nat → Prop) : Prop where
  lt : B1 < z ∧ B2 < z ∧ B3 < z
  m : ¬ M0 B1 ∧ ¬ M0 B2 ∧ ¬ M0 B3
  s : ¬ st B1 ∧ ¬ st B2 ∧ ¬ st B3
def mlAt (m : ML) (X : Lg.Pk → Bool) (i : Nat) (Z : List Lg.Pk) : ML := { m with way := Z, ask := Lg.askA m.way X i }
structure TkI (z : Nat) (M0 : Nat → Prop) (J : Nat → (Nat → Prop) → World → Prop) (B1 B2 B3 g e : Nat) (fv v : Value) (m : ML) (X : Lg.Pk → Bool) (i : Nat) (Z : List Lg.Pk) (M : Nat → Prop) (W : World) : Prop where
  zt : Lg.Zt m.way X i Z
  j : J (Lg.tl m.way X i).length M W
  ld : LdOk W g v (mlAt m X i Z)
  bx : TkW B1 B2 B3 g e fv W
  lo : ∀ k, M k → M0 k ∨ z ≤ k
  mg : M g
  mv : ∀ k, v.ownBlock = some k → M k
  sz : z ≤ W.heap.size
section
variable {z : Nat} {M0 st : Nat → Prop} {J : Nat → (Nat → Prop) → World → Prop} {B1 B2 B3 g e : Nat} {fv v : Value} {m : ML} {X : Lg.Pk → Bool} {i : Nat} {Z : List Lg.Pk} {M : Nat → Prop} {A B : World}
theorem TkB.out (h : TkB B1 B2 B3 z M0 st) (hlo : ∀ k, M k → M0 k ∨ z ≤ k) : ¬ M B1 ∧ ¬ M B2 ∧ ¬ M B3 :=
  ⟨fun q => (hlo _ q).elim h.m.1 (fun q => by have := h.lt; omega), fun q => (hlo _ q).elim h.m.2.1 (fun q => by have := h.lt; omega), fun q => (hlo _ q).elim h.m.2.2 (fun q => by have := h.lt; omega)⟩
/-- The iterator goes a step in its own memory. -/
theorem TkI.step (hJ : ∀ s M A B, J s M A → KeepM M A B → J s (newM M A B) B) (hB : TkB B1 B2 B3 z M0 st) (h : TkI z M0 J B1 B2 B3 g e fv v m X i Z M A) (hk : KeepM M A B) {Z' : List Lg.Pk} {a : Nat} (hl : LdOk B g v { m with way := Z', ask := a }) :
    ∃ M', J (Lg.tl m.way X i).length M' B ∧ TkW B1 B2 B3 g e fv B ∧ (∀ k, M' k → M0 k ∨ z ≤ k) ∧ M' g ∧ (∀ k, v.ownBlock = some k → M' k) ∧ z ≤ B.heap.size ∧ LdOk B g v { m with way := Z', ask := a } := by
  obtain ⟨o1, o2, o3⟩ := hB.out h.lo
  have hz := h.sz
  obtain ⟨l1, l2, l3⟩ := hB.lt
  refine ⟨newM M A B, hJ _ _ _ _ h.j hk, h.bx.same (hk.block _ (by omega) o1) (hk.block _ (by omega) o2) (hk.block _ (by omega) o3), ?_, .inl h.mg, fun k q => .inl (h.mv k q), Nat.le_trans hz hk.size, hl⟩
  rintro k (q | ⟨q1, _⟩)
  · exact h.lo k q
  · exact .inr (by omega)
theorem keepM_ld {g : Nat} {v : Value} {M : Nat → Prop} {A B : World} (h : KeepL g v A B) (mg : M g) (mv : ∀ k, v.ownBlock = some k → M k) : KeepM M A B :=
  ⟨h.os, h.tape, h.output, h.size, fun k hk hn => h.block k hk (fun q => q.elim (fun q => hn (q ▸ mg)) (fun q => hn (mv k q)))⟩
/-- One that stays is written to its place. -/
theorem LdOk.setPk {W : World} {b o n cap : Nat} (h : LdOk W g (.slice (some ⟨b, o, none⟩) n cap) m) (hn : m.way.length = n) (s : Nat) (hs : s < n) (p : Lg.Pk) :
    LdOk ((((W.setCell ⟨b, o + s * 4, none⟩ (.int .u64 (p.num : Int))).setCell ⟨b, o + s * 4 + 1, none⟩ (.int .i64 (p.size : Int))).setCell ⟨b, o + s * 4 + 2, none⟩ (.int .u64 (p.time : Int))).setCell ⟨b, o + s * 4 + 3, none⟩ (.bool p.asks)) g (.slice (some ⟨b, o, none⟩) n cap) { m with way := m.way.set s p } ∧
    KeepL g (.slice (some ⟨b, o, none⟩) n cap) W ((((W.setCell ⟨b, o + s * 4, none⟩ (.int .u64 (p.num : Int))).setCell ⟨b, o + s * 4 + 1, none⟩ (.int .i64 (p.size : Int))).setCell ⟨b, o + s * 4 + 2, none⟩ (.int .u64 (p.time : Int))).setCell ⟨b, o + s * 4 + 3, none⟩ (.bool p.asks)) := by
  have hne : g ≠ b := fun q => h.apart (by rw [q]; rfl)
  refine ⟨⟨?_, ?_⟩, ?_⟩
  · have := h.row
    refine (?_ : _ = _).trans h.row
    rw [Below.heap_setCell _ _ _ _ hne, Below.heap_setCell _ _ _ _ hne, Below.heap_setCell _ _ _ _ hne, Below.heap_setCell _ _ _ _ hne]
  · have := h.way
    rw [hn] at this
    show RowO _ _ 4 _ (m.way.set s p).length (vp (m.way.set s p))
    rw [List.length_set, hn]
    exact this.setPk hn s hs p
  · exact (((KeepP.setCell (.inr rfl) _ _ _).trans (KeepP.setCell (.inr rfl) _ _ _)).trans (KeepP.setCell (.inr rfl) _ _ _)).trans (KeepP.setCell (.inr rfl) _ _ _)
/-- Behind a round of the body. -/
theorem TkI.back {W3 W4 : World} {m1 : ML} (hB : TkB B1 B2 B3 z M0 st) (hk : KeepY z st M W3 W4) (hl : LdOk W3 g v m1) (hb : TkW B1 B2 B3 g e fv W3) (mg : M g) (mv : ∀ k, v.ownBlock = some k → M k) (hz : z ≤ W3.heap.size) : LdOk W4 g v m1 ∧ TkW B1 B2 B3 g e fv W4 ∧ z ≤ W4.heap.size := by
  obtain ⟨l1, l2, l3⟩ := hB.lt
  obtain ⟨s1, s2, s3⟩ := hB.s
  exact ⟨hl.same (hk.block _ hl.lt (.inr mg)) (fun k q => hk.block _ (hl.way.lt k q) (.inr (mv k q))), hb.same (hk.block _ (by omega) (.inl ⟨l1, s1⟩)) (hk.block _ (by omega) (.inl ⟨l2, s2⟩)) (hk.block _ (by omega) (.inl ⟨l3, s3⟩)), Nat.le_trans hz hk.size⟩
theorem copy_none {P : Program} (W : World) (ty t e : TypeId) (n : Nat) (hu : P.underlying t = some (.slice e)) (hs : (P.info? e).map (·.size) = some n) : (Builtin.copy_ #[t, t] ty #[.slice none 0 0, .slice none 0 0]).run P W = .ok (goInt 0) W := by
  cases hq : P.info? e with
  | none => simp [hq] at hs
  | some i => simp [Builtin.copy_, run_underlying hu, Builtin.lenOf, Builtin.firstCells, sizeOf, typeInfo, hq]
theorem RowO.frozen {W : World} {e : TypeId} {b o n cap : Nat} {xs : List Value} (h : RowO W e 4 (.slice (some ⟨b, o, none⟩) n cap) n xs) (k : Nat) : W.frozen? ⟨b, k, none⟩ = false := by
  rcases h.2 with ⟨h1, _⟩ | ⟨g', o', c', cur, h3, h4, _⟩
  · cases h1
  · injection h3 with e1 e2 e3
    injection e1 with e1
    injection e1 with e1 e4
    subst e1
    exact frozen_of_row W b k cur e h4
theorem asum_le : ∀ (l : List Lg.Pk), (∀ p ∈ l, p.size ≤ 1200) → Lg.asum l ≤ 1200 * l.length
  | [], _ => Nat.le_refl _
  | p :: l, h => by
    have h1 := asum_le l (fun q hq => h q (List.mem_cons_of_mem _ hq))
    have h2 := h p (List.mem_cons_self ..)
    rw [Lg.asum_cons, List.length_cons]
    split <;> omega
theorem askA_le {m : ML} (hm : Fits m) (X : Lg.Pk → Bool) (i : Nat) : Lg.askA m.way X i ≤ 3000000 := by
  have h1 := asum_le (Lg.sl m.way X i ++ m.way.drop i) (fun p hp => by
    rcases List.mem_append.1 hp with q | q
    · exact (hm.size p (List.mem_of_mem_take (List.mem_filter.1 q).1)).2
    · exact (hm.size p (List.mem_of_mem_drop q)).2)
  have h2 : (Lg.sl m.way X i ++ m.way.drop i).length ≤ m.way.length := by
    unfold Lg.sl
    have := List.length_filter_le (fun p => !X p) (m.way.take i)
    rw [List.length_take] at this
    rw [List.length_append, List.length_drop]
    omega
  have h3 := hm.len
  unfold Lg.askA
  omega
theorem LdOk.setAsk {W : World} (h : LdOk W g v m) (a : Nat) : LdOk (W.setCell ⟨g, 1, none⟩ (.int .i64 (a : Int))) g v { m with ask := a } ∧ KeepL g v W (W.setCell ⟨g, 1, none⟩ (.int .i64 (a : Int))) :=
  ⟨⟨h.row.set 1 _, h.way.same (fun k hk => Below.heap_setCell _ _ _ _ (fun q => h.apart (by rw [show g = k from q.symm]; exact hk)))⟩, KeepP.setCell (.inl rfl) _ _ _⟩
end
end Go.Proofs.YtohoieleakieeaaGreatDoor
