/-
  A greeting's cells in memory: read and written in parts.
-/
import Derived.Test.YtjccjlhnjihfjaaDoorGhHeField
import Derived.Deep.MidRow
namespace Go.Proofs.YtjccjlhnjihfjaaDoor
open Go Go.RowKit

theorem setCells_below {B : Nat} {a : World} (g : Nat) (hg : B ≤ g) : ∀ (vs : List Value) (o : Nat) (w : World), Below B a w → Below B a (w.setCells g o vs)
  | [], _, _, h => h
  | v :: r, o, w, h => by
    rw [World.setCells]
    exact setCells_below g hg r (o + 1) _ (h.setCell (p := ⟨g, o, none⟩) hg v)
theorem Row.setCells : ∀ (vs : List Value) {w : World} {g : Nat} {t : TypeId} {cs : Array Value} (o : Nat), Row w g t cs → o + vs.length ≤ cs.size → Row (w.setCells g o vs) g t (cs.toList.take o ++ vs ++ cs.toList.drop (o + vs.length)).toArray
  | [], w, g, t, cs, o, h, _ => by
    rw [World.setCells]
    simp only [List.length_nil, Nat.add_zero, List.append_nil, List.take_append_drop]
    exact h
  | v :: r, w, g, t, cs, o, h, hl => by
    rw [World.setCells]
    have h1 := Row.setCells r (o + 1) (h.set o v) (by rw [Array.size_setIfInBounds]; simp only [List.length_cons] at hl; omega)
    have e : ((cs.setIfInBounds o v).toList.take (o + 1) ++ r ++ (cs.setIfInBounds o v).toList.drop (o + 1 + r.length)) = cs.toList.take o ++ v :: r ++ cs.toList.drop (o + (v :: r).length) := by
      obtain ⟨l⟩ := cs
      simp only [List.length_cons, List.size_toArray] at hl
      simp only [List.setIfInBounds_toArray, List.length_cons]
      have e1 : (l.set o v).take (o + 1) = l.take o ++ [v] := by
        rw [List.take_add_one, List.take_set_of_le (Nat.le_refl _), List.getElem?_set_self (by omega)]
        rfl
      have e2 : (l.set o v).drop (o + 1 + r.length) = l.drop (o + (r.length + 1)) := by
        rw [List.drop_set_of_lt (by omega)]
        congr 1
        omega
      rw [e1, e2]
      simp
    rwa [e] at h1
theorem Row.rangeH {w : World} {g : Nat} {t : TypeId} {cs : Array Value} (h : Row w g t cs) (o : Nat) (vs : List Value) (hv : ∀ j v, vs[j]? = some v → cs[o + j]? = some v) : w.rangeAt g o vs := fun j v e => (h.cell (o + j)).trans (hv j v e)
theorem Row.thereH {w : World} {g : Nat} {t : TypeId} {cs : Array Value} (h : Row w g t cs) (o n : Nat) (hl : o + n ≤ cs.size) : w.there g o n := fun j hj =>
  ⟨by rw [h.cell (o + j), Array.getElem?_eq_getElem (by omega)]; rfl, h.frozen (o + j)⟩

theorem heC_nn {x : He.H} (j : Nat) (v : Value) (h : (vb x.nn)[j]? = some v) : (heC x)[1 + j]? = some v := by
  have hj := (List.getElem?_eq_some_iff.1 h).1
  simp only [heC, List.getElem?_toArray, heL]
  rw [Nat.add_comm, List.getElem?_cons_succ, List.getElem?_append_left hj, h]
theorem heC_l {x : He.H} (hx : x.nn.length = 32) (j : Nat) (v : Value) (h : (qv x.l)[j]? = some v) : (heC x)[33 + j]? = some v := by
  have hj := (List.getElem?_eq_some_iff.1 h).1
  simp only [heC, List.getElem?_toArray, heL]
  rw [show 33 + j = (32 + j) + 1 by omega, List.getElem?_cons_succ, List.getElem?_append_right (by rw [vb_length]; omega), vb_length, hx, Nat.add_sub_cancel_left, List.getElem?_append_left hj, h]
theorem heC_pf {x : He.H} (hx : x.nn.length = 32) (j : Nat) (v : Value) (h : (vb x.pf)[j]? = some v) : (heC x)[37 + j]? = some v := by
  simp only [heC, List.getElem?_toArray, heL]
  rw [show 37 + j = (36 + j) + 1 by omega, List.getElem?_cons_succ, List.getElem?_append_right (by rw [vb_length]; omega), vb_length, hx, show 36 + j - 32 = 4 + j by omega, List.getElem?_append_right (by simp), show 4 + j - (qv x.l).length = j by simp, h]
theorem heC_0 (x : He.H) : (heC x)[0]? = some (.int .u8 (v8 x.k)) := rfl
theorem heL_nn {x : He.H} {n : List By} (hx : x.nn.length = 32) (hn : n.length = 32) : ((heC x).toList.take 1 ++ vb n ++ (heC x).toList.drop (1 + (vb n).length)).toArray = heC { x with nn := n } := by
  apply Array.ext'
  simp only [heC, heL, vb_length, hn, List.take_succ_cons, List.take_zero]
  rw [Nat.add_comm 1 32, List.drop_succ_cons, List.drop_append_of_le_length (by rw [vb_length]; omega), List.drop_of_length_le (by rw [vb_length]; omega)]
  simp
theorem heL_l {x : He.H} {l : He.Q4} (hx : x.nn.length = 32) : ((heC x).toList.take 33 ++ qv l ++ (heC x).toList.drop (33 + (qv l).length)).toArray = heC { x with l := l } := by
  apply Array.ext'
  have e1 : (vb x.nn ++ (qv x.l ++ vb x.pf)).take 32 = vb x.nn := by rw [← hx, ← vb_length x.nn, List.take_left]
  have e2 : (vb x.nn ++ (qv x.l ++ vb x.pf)).drop 36 = vb x.pf := by
    rw [List.drop_append, vb_length, hx, List.drop_of_length_le (by rw [vb_length]; omega)]
    simp
  simp only [heC, heL, List.take_succ_cons, List.length_cons, List.length_nil]
  rw [e1, List.drop_succ_cons, e2]
  simp
theorem heL_pf {x : He.H} {p : List By} (hx : x.nn.length = 32) (hp : x.pf.length = 32) (hn : p.length = 32) : ((heC x).toList.take 37 ++ vb p ++ (heC x).toList.drop (37 + (vb p).length)).toArray = heC { x with pf := p } := by
  apply Array.ext'
  have e1 : (vb x.nn ++ (qv x.l ++ vb x.pf)).take 36 = vb x.nn ++ qv x.l := by
    rw [List.take_append, vb_length, hx, List.take_of_length_le (by rw [vb_length]; omega)]
    simp
  have e2 : (vb x.nn ++ (qv x.l ++ vb x.pf)).drop 68 = [] := by
    apply List.drop_of_length_le
    simp only [List.length_append, vb_length, hx, hp, List.length_cons, List.length_nil]
    omega
  simp only [heC, heL, List.take_succ_cons, vb_length, hn]
  rw [e1, List.drop_succ_cons, e2]
  simp
theorem he_one (x : He.H) : (heC x).all (·.oneCell') = true := by
  simp [heC, heL, vb, Value.oneCell']
end Go.Proofs.YtjccjlhnjihfjaaDoor
