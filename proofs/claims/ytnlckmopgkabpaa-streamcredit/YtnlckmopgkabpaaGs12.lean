/-
  Out of LgOpen, RgOpen, SnOpenP.
-/
import Derived.Test.YtnlckmopgkabpaaGs5
import Derived.Test.YtnlckmopgkabpaaGs13
import Derived.SizedLaws
import Derived.OpenShut
import Derived.Test.YtnlckmopgkabpaaGsRgMem
import Derived.Test.YtnlckmopgkabpaaGs15

/-! Numbers that came in. -/
namespace Go.Proofs.Ytnlckmopgkabpaa
open Go Go.ChangeShapes Go.WideShapes Go.ChangeAt Go.RowKit

section
variable {H : Type} {enc : TypeId × Value → H} {W : World} {base : Nat} {v : Value} {d : DataW H} {ps : List MemPlace}
set_option maxRecDepth 20000 in
theorem open_u16 (hval : Value.okWide Try.prog W .any base 47 v) (h0 : DataW.Trod enc Try.prog W 0 (fun _ => true) true 47 v d ps) : ∃ n : Nat, v = .int .u16 (n : Int) ∧ n < 65536 := by
  obtain ⟨a, rfl, _, _, hw⟩ := open_int Try.underlying47 hval h0
  have hb := bounds_u16 hw
  exact ⟨a.toNat, by rw [Int.toNat_of_nonneg hb.1], by omega⟩
end
end Go.Proofs.Ytnlckmopgkabpaa

/-! Ranges that came in. -/
namespace Go.Proofs.Ytnlckmopgkabpaa
open Go Go.ChangeShapes Go.WideShapes Go.ChangeAt Go.RowKit

theorem pick_list {α : Type} {Pr : Nat → α → Prop} : ∀ (n : Nat), (∀ i, i < n → ∃ r, Pr i r) → ∃ l : List α, l.length = n ∧ ∀ i, i < n → ∃ r, l[i]? = some r ∧ Pr i r
  | 0, _ => ⟨[], rfl, fun i hi => absurd hi (Nat.not_lt_zero _)⟩
  | n + 1, h => by
    obtain ⟨l, h1, h2⟩ := pick_list n (fun i hi => h i (by omega))
    obtain ⟨r, hr⟩ := h n (by omega)
    refine ⟨l ++ [r], by rw [List.length_append, h1]; rfl, fun i hi => ?_⟩
    rcases Nat.lt_or_ge i n with q | q
    · obtain ⟨r', h3, h4⟩ := h2 i q
      exact ⟨r', by rw [List.getElem?_append_left (by omega)]; exact h3, h4⟩
    · obtain rfl : i = n := by omega
      exact ⟨r, by rw [List.getElem?_append_right (by omega), h1, Nat.sub_self]; rfl, hr⟩
section
variable {H : Type} {enc : TypeId × Value → H} {W : World}
theorem two_cells {l : List Value} {a b : Value} (h : l.length = 2) (h0 : (l.drop 0).take 1 = [a]) (h1 : (l.drop 1).take 1 = [b]) : l = [a, b] := by
  match l, h with
  | [x, y], _ => simp at h0 h1; rw [h0, h1]
end
section
variable {H : Type} {enc : TypeId × Value → H} {W : World} {base : Nat} {v : Value} {d : DataW H} {ps : List MemPlace}
end
end Go.Proofs.Ytnlckmopgkabpaa

/-! A list of pairs that came in. -/
namespace Go.Proofs.Ytnlckmopgkabpaa
open Go Go.ChangeShapes Go.WideShapes Go.ChangeAt Go.RowKit

section
variable {H : Type} {enc : TypeId × Value → H} {W : World}
theorem open_u8c {fuel : Nat} {cs : List Value} {x : DataW H × List MemPlace} (hf : DataW.trod enc Try.prog W 0 (fun _ => true) true fuel 5 cs = some x) : ∃ n : Nat, cs = [.int .u8 (n : Int)] ∧ n < 256 := by
  obtain ⟨n, h1, _, h3⟩ := DataW.trod_int Try.underlying5 hf
  have hb := bounds_u8 h3
  exact ⟨n.toNat, by rw [h1, Int.toNat_of_nonneg hb.1], by omega⟩
set_option maxRecDepth 100000 in
theorem open_pair {fuel : Nat} {cs : List Value} {x : DataW H × List MemPlace} (hcl : cs.length = 2) (hf : DataW.trod enc Try.prog W 0 (fun _ => true) true fuel 49 cs = some x) :
    ∃ r : Nat × Nat, cs = [.int .u8 (r.1 : Int), .int .u8 (r.2 : Int)] ∧ r.1 < 256 ∧ r.2 < 256 := by
  obtain ⟨xs, m, _, _, _, hl, hel⟩ := DataW.trod_array Try.underlying49 hf
  have c1 : Try.prog.cellsOf 5 = 1 := by kernel_rfl
  have e0 := hel 0 (by decide)
  have e1 := hel 1 (by decide)
  rw [c1, List.getElem?_eq_getElem (by rw [hl]; decide)] at e0
  rw [c1, List.getElem?_eq_getElem (by rw [hl]; decide)] at e1
  obtain ⟨n0, h0, b0⟩ := open_u8c e0
  obtain ⟨n1, h1, b1⟩ := open_u8c e1
  exact ⟨(n0, n1), two_cells hcl h0 h1, b0, b1⟩
set_option maxRecDepth 100000 in
theorem open_pl {fuel : Nat} {cs : List Value} {x : DataW H × List MemPlace} (hf : DataW.trod enc Try.prog W 0 (fun _ => true) true fuel 48 cs = some x) :
    ∃ q : PL8, cs = [.slice q.a q.len q.cap] ∧ q.Ok W := by
  rcases DataW.trod_slice Try.underlying48 hf with ⟨hcs, hx⟩ | ⟨a, len, cap, elems, rest, n, _, hcs, hx, _, hl, hm, hlen, hel, hsp, _⟩
  · exact ⟨⟨none, 0, 0, 0, 0, []⟩, hcs, ⟨fun p => absurd p (Nat.lt_irrefl _), fun p => absurd p (Nat.lt_irrefl _), fun _ h => absurd h (Nat.not_lt_zero _), fun _ => ⟨by show (0 : Nat) < _; decide, by show (0 : Nat) < _; decide⟩⟩⟩
  · have hc2 : Try.prog.cellsOf 49 = 2 := by kernel_rfl
    have each : ∀ i, i < len → ∃ r : Nat × Nat, W.cell? ((a.add (i * 2)).add 0) = some (.int .u8 (r.1 : Int)) ∧ W.cell? ((a.add (i * 2)).add 1) = some (.int .u8 (r.2 : Int)) ∧ r.1 < 256 ∧ r.2 < 256 := by
      intro i hi
      have h := hel i hi
      rw [hc2, List.getElem?_eq_getElem (by omega), Option.bind_eq_some_iff] at h
      obtain ⟨cs', h1, h2⟩ := h
      obtain ⟨h0, h3, h4⟩ := World.cells?_some h1
      obtain ⟨r, h5, h6, h7⟩ := open_pair (by first | exact h3 | exact h0 | omega) h2
      rw [h5] at h4
      exact ⟨r, h4 0 (by decide), h4 1 (by decide), h6, h7⟩
    obtain ⟨l, hll, hl2⟩ := pick_list len each
    obtain ⟨g, off, spot⟩ := a
    have hspot : 0 < len → spot = none := fun p => by
      obtain ⟨r, h1, _⟩ := each 0 p
      have := World.cell?_spot h1
      simpa [Addr.add] using this
    refine ⟨⟨some ⟨g, off, spot⟩, len, cap, g, off, l⟩, hcs, ⟨fun p => by rw [hspot p], fun p => ?_, fun j hj => ?_, fun j => ?_⟩⟩
    · obtain rfl := hspot p
      obtain ⟨r, h1, _⟩ := each 0 p
      rcases Nat.lt_or_ge g W.heap.size with q | q
      · exact q
      · exfalso
        simp [World.cell?, Addr.add, Array.getElem?_eq_none q] at h1
    · have hj' : j < len := hj
      obtain rfl := hspot (by omega)
      obtain ⟨r, h0, h1, h2, _⟩ := hl2 j hj'
      have e : gr l j = r := by unfold gr; rw [h0]; rfl
      rw [Addr.add_mid, Addr.add_mid] at h1 h2
      show W.cell? ⟨g, off + j * 2, none⟩ = some (.int .u8 ((gr l j).1 : Int)) ∧ W.cell? ⟨g, off + j * 2 + 1, none⟩ = some (.int .u8 ((gr l j).2 : Int))
      rw [e]
      exact ⟨by rw [← h1, Nat.add_zero], h2⟩
    · show (gr l j).1 < _ ∧ (gr l j).2 < _
      rcases Nat.lt_or_ge j len with q | q
      · obtain ⟨r, h0, _, _, h3, h4⟩ := hl2 j q
        have e : gr l j = r := by unfold gr; rw [h0]; rfl
        rw [e]
        exact ⟨h3, h4⟩
      · have e : gr l j = (0, 0) := by unfold gr; rw [List.getElem?_eq_none (by omega)]; rfl
        rw [e]
        exact ⟨by decide, by decide⟩
variable {base : Nat} {v : Value} {d : DataW H} {ps : List MemPlace}
set_option maxRecDepth 20000 in
theorem open_pairs (hval : Value.okWide Try.prog W .any base 48 v) (h0 : DataW.Trod enc Try.prog W 0 (fun _ => true) true 48 v d ps) :
    ∃ q : PL8, v = .slice q.a q.len q.cap ∧ q.Ok W := by
  obtain ⟨a0, len0, cap0, rfl⟩ := okWide_slice Try.underlying48 hval
  obtain ⟨fuel, hf⟩ := h0
  obtain ⟨q, hcs, h⟩ := open_pl hf
  refine ⟨q, ?_, h⟩
  have hcs' : [Value.slice a0 len0 cap0] = [Value.slice q.a q.len q.cap] := hcs
  exact List.head_eq_of_cons_eq hcs'
end
end Go.Proofs.Ytnlckmopgkabpaa
