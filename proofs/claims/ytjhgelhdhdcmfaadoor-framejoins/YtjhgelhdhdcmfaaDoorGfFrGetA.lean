/-
  frame's reader: number, numberUpTo, has. What may not be leaves by a panic with its error.
-/
import Derived.Test.YtjhgelhdhdcmfaaDoorGf5
namespace Go.Proofs.YtjhgelhdhdcmfaaDoor
open Go Go.RowKit

/-- The reader's cells: what is left, and the type's bits. -/
def rrC (s : SL) (tb : Nat) : Array Value := #[.slice s.a s.len s.cap, .int .u64 (tb : Int)]
/-- A reader at a place, with what is left to be read; what it reads lies elsewhere. -/
structure Rd (w : World) (g : Nat) (s : SL) (tb : Nat) : Prop where
  row : Row w g 52 (rrC s tb)
  ok : s.Ok w
  told : s.Told
  ne : 0 < s.len → s.g ≠ g
  lens : Lens w
  gne : 1 ≠ g
  len : s.len ≤ 1048576
theorem Rd.below {w w' : World} {g tb : Nat} {s : SL} (h : Rd w g s tb) (hb : Below w.heap.size w w') : Rd w' g s tb := ⟨h.row.below hb h.row.lt, h.ok.below hb, h.told, h.ne, h.lens.step hb, h.gne, h.len⟩
theorem Lens.lt {w : World} (h : Lens w) : 1 < w.heap.size := by
  rcases Nat.lt_or_ge 1 w.heap.size with h0 | h0
  · exact h0
  · have := h.1
    simp [World.cell?, Array.getElem?_eq_none h0] at this
theorem Lens.same {w w' : World} (h : Lens w) (hb : w'.heap[1]? = w.heap[1]?) : Lens w' :=
  ⟨(World.cell?_of_block (a := ⟨1, 0, none⟩) hb).trans h.1, (World.cell?_of_block (a := ⟨1, 1, none⟩) hb).trans h.2.1, (World.cell?_of_block (a := ⟨1, 2, none⟩) hb).trans h.2.2.1, (World.cell?_of_block (a := ⟨1, 3, none⟩) hb).trans h.2.2.2⟩
theorem Lens.grown {w w' : World} {g : Nat} (h : Lens w) (hg : w.grownBy w' (some g)) (hne : 1 ≠ g) : Lens w' := h.same (hg.block _ h.lt (fun e => hne (Option.some.inj e)))
/-- How a call leaves by a panic with an error. -/
def pan (e : Nat) : Ending := .panicked [{ v := .iface 27 (.int .i64 (e : Int)), recovered := false }]

/-- What a reader's call brings about, told by what it reads: a panic with its error, or a value; and what is left. -/
def RdPost {α : Type} (w : World) (g : Nat) (s : SL) (tb : Nat) (m : Fr.R α) (V : α → World → Value → Prop) (x : Ending) (w' : World) : Prop :=
  (∃ e, m s.b = .error e ∧ x = pan e ∧ w.grownBy w' (some g)) ∨ (∃ a r v, ∃ s' : SL, m s.b = .ok (a, r) ∧ x = .returned v ∧ V a w' v ∧ Rd w' g s' tb ∧ s'.b = r ∧ s'.g = s.g ∧ s'.len ≤ s.len ∧ w.grownBy w' (some g))
theorem thenR_ok {α β : Type} {m : Fr.R α} {f : α → Fr.R β} {b b' : List By} {a : α} (h : m b = .ok (a, b')) : Fr.thenR m f b = f a b' := by
  unfold Fr.thenR
  rw [h]
theorem numR_none {b : List By} (h : Fr.getN b = none) : Fr.numR b = .error 4 := by unfold Fr.numR; rw [h]
theorem numR_some {b : List By} {n k : Nat} (h : Fr.getN b = some (n, k)) : Fr.numR b = .ok (n, b.drop k) := by unfold Fr.numR; rw [h]
/-- A number, as it is answered. -/
def numV (n : Nat) (_ : World) (v : Value) : Prop := v = .int .u64 (n : Int) ∧ n ≤ 4611686018427387903

set_option maxRecDepth 20000 in
set_option maxHeartbeats 1000000 in
theorem fr_number (g : Nat) (s : SL) (tb : Nat) (w : World) (h : Rd w g s tb) :
    Calls Tryd.prog 50 #[.pointer (some ⟨g, 0, none⟩)] w fun x w' => match Fr.getN s.b with
      | none => x = pan 4 ∧ w.grownBy w' (some g)
      | some (n, k) => x = .returned (.int .u64 (n : Int)) ∧ ∃ s' : SL, Rd w' g s' tb ∧ s'.b = s.b.drop k ∧ s'.g = s.g ∧ s'.len ≤ s.len ∧ w.grownBy w' (some g) := by
  have c0 : w.cell? ⟨g, 0, none⟩ = some (.slice s.a s.len s.cap) := h.row.cell 0
  have z0 := h.row.frozen 0
  have HG := veil (var_get s w h.ok (Nat.le_trans h.len (by decide)) h.lens)
  have H := veil h
  have HNIL := veil h.ok.nil
  have HT := veil h.told
  clear h
  cases hq : Fr.getN s.b with
  | none =>
    have HGOT := veil (show gotN s.b = (0, 0, 4) by unfold gotN; rw [hq])
    clear hq
    go_enter Tryd.func50, Tryd.ntmps50
    go_wp2_with fail
    refine HG.out.mono ?_
    rintro x1 w1 ⟨rfl, hw1⟩
    obtain rfl := hw1.symm
    unfold gotV
    rw [HGOT.out]
    clear HG HGOT
    go_wp2_with fail
    exact ⟨rfl, rfl, grown_refl _ _⟩
  | some p =>
    obtain ⟨n, k⟩ := p
    have hk1 : k ≤ s.len := by have := (Fr.getN_some hq).2.1; rw [H.out.ok.hb] at this; exact this
    have HGOT := veil (show gotN s.b = (n, k, 0) by unfold gotN; rw [hq])
    clear hq
    go_enter Tryd.func50, Tryd.ntmps50
    go_wp2_with fail
    refine HG.out.mono ?_
    rintro x1 w1 ⟨rfl, hw1⟩
    obtain rfl := hw1.symm
    unfold gotV
    rw [HGOT.out]
    clear HG HGOT
    go_wp2_with (with_reducible (show wpList _ _ _ (⟨some 25, Op.slice _ _ _ _ _, _, _, _, _⟩ :: _) _ _)
                 refine value_wp rfl _ (run_cutF 26 5 _ _ s k HT.out HNIL.out rfl rfl rfl Tryd.underlying26 (by kernel_rfl) hk1 _) ?_)
    go_ret
    obtain ⟨o1, o2, o3, o4, o5⟩ := cutF_ok H.out.ok H.out.told k hk1
    have hg1 : w.grownBy (w.setCell ⟨g, 0, none⟩ (.slice (cutF s k).a (cutF s k).len (cutF s k).cap)) (some g) := grown_set (grown_refl _ _)
    refine ⟨rfl, cutF s k, ⟨H.out.row.set 0 _, o1.apart hg1 (fun p => by rw [o5]; exact H.out.ne (by omega)), o2, fun p => by rw [o5]; exact H.out.ne (by omega), H.out.lens.grown hg1 H.out.gne, H.out.gne, by have := H.out.len; omega⟩, o4, o5, by omega, hg1⟩
theorem rd_num (g : Nat) (s : SL) (tb : Nat) (w : World) (h : Rd w g s tb) :
    Calls Tryd.prog 50 #[.pointer (some ⟨g, 0, none⟩)] w (RdPost w g s tb Fr.numR numV) := by
  refine (fr_number g s tb w h).mono ?_
  intro x w' hp
  cases hq : Fr.getN s.b with
  | none =>
    rw [hq] at hp
    exact .inl ⟨4, numR_none hq, hp.1, hp.2⟩
  | some p =>
    obtain ⟨n, k⟩ := p
    rw [hq] at hp
    obtain ⟨h1, s', h2, h3, h4, h5, h6⟩ := hp
    exact .inr ⟨n, _, _, s', numR_some hq, h1, ⟨rfl, (Fr.getN_some hq).2.2.1⟩, h2, h3, h4, h5, h6⟩

/-- A number up to another one. -/
def uptoR (most : Nat) : Fr.R Nat := Fr.thenR Fr.numR fun n => if most < n then Fr.noR 5 else Fr.okR n
set_option maxRecDepth 20000 in
set_option maxHeartbeats 1000000 in
theorem rd_upto (g : Nat) (s : SL) (tb most : Nat) (w : World) (h : Rd w g s tb) :
    Calls Tryd.prog 55 #[.pointer (some ⟨g, 0, none⟩), .int .u64 (most : Int)] w (RdPost w g s tb (uptoR most) (fun n w' v => numV n w' v ∧ n ≤ most)) := by
  have HN := veil (rd_num g s tb w h)
  clear h
  go_enter Tryd.func55, Tryd.ntmps55
  go_wp2_with fail
  refine HN.out.mono ?_
  rintro x1 w1 (⟨e, he, rfl, hg⟩ | ⟨n, r, v, s1, he, rfl, ⟨rfl, hv⟩, hR, hb, hsg, hsl, hg⟩)
  · exact ⟨rfl, .inl ⟨e, Fr.thenR_err he, rfl, hg⟩⟩
  · have HE := veil (show uptoR most s.b = (if most < n then Fr.noR 5 else Fr.okR n) r from thenR_ok he)
    have HREST := veil (show Rd w1 g s1 tb ∧ s1.b = r ∧ s1.g = s.g ∧ s1.len ≤ s.len ∧ w.grownBy w1 (some g) from ⟨hR, hb, hsg, hsl, hg⟩)
    have HV := veil hv
    clear he hR hb hsg hsl hg hv
    by_cases hn : most < n
    · have f1 : decide ((most : Int) < (n : Int)) = true := by simp; omega
      have f1n : decide (most < n) = true := by simp; omega
      have HE2 := veil (show uptoR most s.b = .error 5 by rw [HE.out, if_pos hn]; rfl)
      clear hn
      go_wp2_with fail
      exact ⟨rfl, .inl ⟨5, HE2.out, rfl, HREST.out.2.2.2.2⟩⟩
    · have f1 : decide ((most : Int) < (n : Int)) = false := by simp; omega
      have f1n : decide (most < n) = false := by simp; omega
      have HE2 := veil (show uptoR most s.b = .ok (n, r) by rw [HE.out, if_neg hn]; rfl)
      have HM := veil (Nat.le_of_not_lt hn)
      clear hn
      go_wp2_with fail
      go_ret
      exact .inr ⟨n, r, _, s1, HE2.out, rfl, ⟨⟨rfl, HV.out⟩, HM.out⟩, HREST.out⟩

set_option maxHeartbeats 1000000 in
theorem rd_has (g : Nat) (s : SL) (tb bit : Nat) (w : World) (h : Rd w g s tb) :
    Calls Tryd.prog 56 #[.pointer (some ⟨g, 0, none⟩), .int .u64 (bit : Int)] w fun e w' => e = .returned (.bool (bits .and .u64 (tb : Int) (bit : Int) != 0)) ∧ w' = w := by
  have c1 : w.cell? ⟨g, 1, none⟩ = some (.int .u64 (tb : Int)) := h.row.cell 1
  clear h
  go_enter Tryd.func56, Tryd.ntmps56
  go_wp2_with fail
  go_ret
  exact ⟨rfl, rfl⟩
end Go.Proofs.YtjhgelhdhdcmfaaDoor
