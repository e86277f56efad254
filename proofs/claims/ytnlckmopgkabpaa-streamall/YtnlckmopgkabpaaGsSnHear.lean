/-
  What a frame tells of a sender, whole: is it the sender's own, and which places does it tell of.
-/
import Derived.Test.YtnlckmopgkabpaaGsSnOfY
namespace Go.Proofs.Ytnlckmopgkabpaa
open Go Go.RowKit

namespace Sr
open Sd
/-- Is it this sender's frame. -/
def itsB (s : Snd) (f : FrM) : Bool := headB s f && decide (Mine s f.offset f.data.b f.fin)
theorem of_any {w : World} {g : Nat} {wr cm ls : Value} {s : Snd} {C L : List Rn} (h : SnOk w g wr cm ls s C L) (f : FrM) (hf : f.Ok w) (hdl : f.data.len < 140737488355328) :
    Calls Try.prog 38 #[.pointer (some ⟨g, 0, none⟩), .agg f.cells] w fun e w' => (∃ r, e = .returned (.tuple #[rcA r, .bool (itsB s f)]) ∧ (itsB s f = true → r = plF f.offset f.data.b.length f.fin)) ∧ Below w.heap.size w w' := by
  unfold itsB
  by_cases c : headB s f = true
  · refine (of_yes h f hf hdl c).mono ?_
    rintro e w' ⟨⟨r, h1, h2⟩, hb⟩
    refine ⟨⟨r, by rw [h1, c, Bool.true_and], fun h3 => ?_⟩, hb⟩
    rw [c, Bool.true_and] at h3
    rw [h2 (of_decide_eq_true h3), hf.data.hb]
  · have c := Bool.eq_false_iff.2 c
    refine (of_no h f c).mono ?_
    rintro e w' ⟨h1, hb⟩
    exact ⟨⟨(0, 0), by rw [h1, c, Bool.false_and], fun h3 => by rw [c, Bool.false_and] at h3; cases h3⟩, hb⟩
/-- What came is stored, once it was added to. -/
theorem came_ok {w W1 : World} {g : Nat} {wr cm ls u : Value} {s : Snd} {C L C2 : List Rn} (h : SnOk w g wr cm ls s C L) (hD : Done w W1 cm u C2) :
    Row W1 g 55 (snC wr cm ls s) ∧ RowO W1 5 1 wr s.b.length (vb s.b) ∧ RowO W1 60 2 ls L.length (vr L) := by
  refine ⟨(hD.keep.block g h.row.lt (fun e => ?_)).trans h.row, h.wrow.same (fun k e => hD.keep.block k (h.wrow.lt k e) (fun e2 => ?_)), h.lrow.same (fun k e => hD.keep.block k (h.lrow.lt k e) (fun e2 => ?_))⟩
  · exact (Ty.ne h.tg (h.tc e) (by decide)) rfl
  · exact (Ty.ne (h.tw e) (h.tc e2) (by decide)) rfl
  · exact h.cl k e2 e
/-- Both lists are stored, one behind the other. -/
theorem both_ok {w W1 W2 W3 : World} {g : Nat} {wr cm ls u1 u2 : Value} {s s' : Snd} {C L C2 L2 : List Rn} (h : SnOk w g wr cm ls s C L) (hD : Done w W1 cm u1 C2) (h2 : W2.heap = (W1.setCell ⟨g, 6, none⟩ u1).heap) (hE : Done W2 W3 ls u2 L2)
    (hr : Rep s' C2 L2) (hb : s'.b = s.b) (hc : ((snC wr cm ls s).setIfInBounds 6 u1).setIfInBounds 7 u2 = snC wr u1 u2 s') :
    SnOk (W3.setCell ⟨g, 7, none⟩ u2) g wr u1 u2 s' C2 L2 ∧ (∀ k, OwnS g wr u1 u2 k → OwnS g wr cm ls k ∨ w.heap.size ≤ k) := by
  obtain ⟨a1, a2, a3⟩ := came_ok h hD
  have a4 := hD.row
  have hsz2 : W2.heap.size = W1.heap.size := by rw [h2]; simp [World.setCell]
  have tg : Ty W1 g 55 := ⟨_, a1⟩
  have o2 : ∀ k, k ≠ g → W2.heap[k]? = W1.heap[k]? := fun k hk => by rw [h2]; exact Below.heap_setCell _ _ _ k hk
  have b1 : Row W2 g 55 ((snC wr cm ls s).setIfInBounds 6 u1) := by
    show W2.heap[g]? = _
    rw [h2]
    exact a1.set 6 u1
  have nw : ∀ k, wr.ownBlock = some k → k ≠ g := fun k e => Ty.ne (Ty.row a2 e) tg (by decide)
  have nl : ∀ k, ls.ownBlock = some k → k ≠ g := fun k e => Ty.ne (Ty.row a3 e) tg (by decide)
  have nc : ∀ k, u1.ownBlock = some k → k ≠ g := fun k e => Ty.ne (Ty.row a4 e) tg (by decide)
  have b2 := a2.same (fun k e => o2 k (nw k e))
  have b3 := a3.same (fun k e => o2 k (nl k e))
  have b4 := a4.same (fun k e => o2 k (nc k e))
  have ul : ∀ k, u1.ownBlock = some k → ls.ownBlock ≠ some k := fun k e e2 => by
    rcases hD.stay k e with e3 | e3
    · exact h.cl k e3 e2
    · have := h.lrow.lt k e2; omega
  have d1 : Row W3 g 55 ((snC wr cm ls s).setIfInBounds 6 u1) := (hE.keep.block g b1.lt (fun e => nl g e rfl)).trans b1
  have d2 := b2.same (fun k e => hE.keep.block k (b2.lt k e) (fun e2 => (Ty.ne (Ty.row b2 e) (Ty.row b3 e2) (by decide)) rfl))
  have d4 := b4.same (fun k e => hE.keep.block k (b4.lt k e) (fun e2 => ul k e e2))
  have tg3 : Ty W3 g 55 := ⟨_, d1⟩
  have n2 : ∀ k, u2.ownBlock = some k → k ≠ g := fun k e => Ty.ne (Ty.row hE.row e) tg3 (by decide)
  have o4 : ∀ k, k ≠ g → (W3.setCell ⟨g, 7, none⟩ u2).heap[k]? = W3.heap[k]? := fun k hk => Below.heap_setCell _ _ _ k hk
  refine ⟨⟨?_, ?_, d4.same (fun k e => o4 k (nc k e)), hE.row.same (fun k e => o4 k (n2 k e)), ?_, hr⟩, ?_⟩
  · rw [← hc]; exact d1.set 7 u2
  · rw [hb]; exact d2.same (fun k e => o4 k (nw k e))
  · intro k e e2
    rcases hE.stay k e2 with e3 | e3
    · exact ul k e e3
    · have := hD.row.lt k e; omega
  · rintro k (e | e | e | e)
    · exact .inl (.inl e)
    · exact .inl (.inr (.inl e))
    · exact (hD.stay k e).imp_left (fun e => .inr (.inr (.inl e)))
    · rcases hE.stay k e with e3 | e3
      · exact .inl (.inr (.inr (.inr e3)))
      · have := hD.keep.size; exact .inr (by omega)
theorem got_ok {w W1 W2 W3 : World} {g : Nat} {wr cm ls u1 u2 : Value} {s : Snd} {C L : List Rn} (h : SnOk w g wr cm ls s C L) (hr : s.reset = false) {p : Nat} {d : List By} {fin : Bool} (hm : Mine s p d fin)
    (hD : Done w W1 cm u1 (add C (plF p d.length fin))) (h2 : W2.heap = (W1.setCell ⟨g, 6, none⟩ u1).heap) (hE : Done W2 W3 ls u2 (cut L (plF p d.length fin))) :
    SnOk (W3.setCell ⟨g, 7, none⟩ u2) g wr u1 u2 (got s p d.length fin) (add C (plF p d.length fin)) (cut L (plF p d.length fin)) ∧ (∀ k, OwnS g wr u1 u2 k → OwnS g wr cm ls k ∨ w.heap.size ≤ k) := by
  obtain ⟨r1, r2⟩ := got_rep h.rep hr hm
  have hg : got s p d.length fin = { s with how := fun i => if p ≤ i ∧ i < p + d.length then 3 else s.how i, fin := if fin = true then 3 else s.fin } := by
    unfold got; rw [if_neg (by rw [hr]; simp)]
  refine both_ok h hD h2 hE r1 (by rw [hg]) ?_
  unfold snC
  rw [r2, hg]
  rfl
/-- And one list alone. -/
theorem lost_ok {w W3 : World} {g : Nat} {wr cm ls u2 : Value} {s s' : Snd} {C L L2 : List Rn} (h : SnOk w g wr cm ls s C L) (hE : Done w W3 ls u2 L2)
    (hr : Rep s' C L2) (hb : s'.b = s.b) (hc : (snC wr cm ls s).setIfInBounds 7 u2 = snC wr cm u2 s') :
    SnOk (W3.setCell ⟨g, 7, none⟩ u2) g wr cm u2 s' C L2 ∧ (∀ k, OwnS g wr cm u2 k → OwnS g wr cm ls k ∨ w.heap.size ≤ k) := by
  have d1 : Row W3 g 55 (snC wr cm ls s) := (hE.keep.block g h.row.lt (fun e => (Ty.ne h.tg (h.tl e) (by decide)) rfl)).trans h.row
  have d2 := h.wrow.same (fun k e => hE.keep.block k (h.wrow.lt k e) (fun e2 => (Ty.ne (h.tw e) (h.tl e2) (by decide)) rfl))
  have d4 := h.crow.same (fun k e => hE.keep.block k (h.crow.lt k e) (fun e2 => h.cl k e e2))
  have tg3 : Ty W3 g 55 := ⟨_, d1⟩
  have n2 : ∀ k, u2.ownBlock = some k → k ≠ g := fun k e => Ty.ne (Ty.row hE.row e) tg3 (by decide)
  have nw : ∀ k, wr.ownBlock = some k → k ≠ g := fun k e => Ty.ne (Ty.row d2 e) tg3 (by decide)
  have nc : ∀ k, cm.ownBlock = some k → k ≠ g := fun k e => Ty.ne (Ty.row d4 e) tg3 (by decide)
  have o4 : ∀ k, k ≠ g → (W3.setCell ⟨g, 7, none⟩ u2).heap[k]? = W3.heap[k]? := fun k hk => Below.heap_setCell _ _ _ k hk
  refine ⟨⟨?_, ?_, d4.same (fun k e => o4 k (nc k e)), hE.row.same (fun k e => o4 k (n2 k e)), ?_, hr⟩, ?_⟩
  · rw [← hc]; exact d1.set 7 u2
  · rw [hb]; exact d2.same (fun k e => o4 k (nw k e))
  · intro k e e2
    rcases hE.stay k e2 with e3 | e3
    · exact h.cl k e e3
    · have := h.crow.lt k e; omega
  · rintro k (e | e | e | e)
    · exact .inl (.inl e)
    · exact .inl (.inr (.inl e))
    · exact .inl (.inr (.inr (.inl e)))
    · exact (hE.stay k e).imp_left (fun e => .inr (.inr (.inr e)))
end Sr
end Go.Proofs.Ytnlckmopgkabpaa
