/-
  Parts that came in, one or many.
-/
import Derived.Test.YtmekhhabkljffaaPcMemP
import Derived.Test.YtmekhhabkljffaaShaLiftA
import Derived.SizedLaws
import Derived.OpenShut
namespace Go.Proofs.Ytmekhhabkljffaa
open Go Go.ChangeShapes Go.WideShapes Go.ChangeAt Go.RowKit

theorem pick_list {α : Type} {Pr : Nat → α → Prop} : ∀ (n : Nat), (∀ i, i < n → ∃ r, Pr i r) → ∃ l : List α, l.length = n ∧ ∀ i, i < n → ∃ r, l[i]? = some r ∧ Pr i r
  | 0, _ => ⟨[], rfl, fun i hi => absurd hi (Nat.not_lt_zero _)⟩
  | n + 1, h => by
    obtain ⟨l, h1, h2⟩ := pick_list n (fun i hi => h i (by omega))
    obtain ⟨r, hr⟩ := h n (by omega)
    refine ⟨l ++ [r], by rw [List.length_append, h1]; rfl, fun i hi => ?_⟩
    rcases Nat.lt_or_ge i n with q | q
    · obtain ⟨r', h3, h4⟩ := h2 i q
      exact ⟨r', by rw [List.getElem?_append_left (by omega)]; exact h3, h4⟩
    · obtain rfl : i = n := by omega
      exact ⟨r, by rw [List.getElem?_append_right (by omega), h1, Nat.sub_self]; rfl, hr⟩
theorem three_cellsP {l : List Value} {a b c : Value} (h : l.length = 3) (h0 : (l.drop 0).take 1 = [a]) (h1 : (l.drop 1).take 1 = [b]) (h2 : (l.drop 2).take 1 = [c]) : l = [a, b, c] := by
  match l, h with
  | [x, y, z], _ => simp at h0 h1 h2; rw [h0, h1, h2]
section
variable {H : Type} {enc : TypeId × Value → H} {W : World}
set_option maxRecDepth 100000 in
theorem open_pt {fuel : Nat} {cs : List Value} {x : DataW H × List MemPlace} (hf : DataW.trod enc Try.prog W 0 (fun _ => true) true fuel 32 cs = some x) :
    ∃ r : Part, cs = [.int .u16 (r.at_ : Int), .int .u16 (r.n : Int), .int .u8 (r.take : Int)] ∧ r.at_ < 65536 ∧ r.n < 65536 ∧ r.take < 256 := by
  obtain ⟨xs, n, _, hxd, hlen, hxl, hfs⟩ := DataW.trod_struct Try.underlying32 hf
  have hl : Try.prog.cellsOf 32 = 3 := by kernel_rfl
  have c1 : Try.prog.cellsOf 30 = 1 := by kernel_rfl
  have c2 : Try.prog.cellsOf 5 = 1 := by kernel_rfl
  have e0 : DataW.trod enc Try.prog W 0 (fun _ => true) true n 30 (List.take (Try.prog.cellsOf 30) (List.drop 0 _)) = xs[0]? := hfs 0 _ rfl
  have e1 : DataW.trod enc Try.prog W 0 (fun _ => true) true n 30 (List.take (Try.prog.cellsOf 30) (List.drop 1 _)) = xs[1]? := hfs 1 _ rfl
  have e2 : DataW.trod enc Try.prog W 0 (fun _ => true) true n 5 (List.take (Try.prog.cellsOf 5) (List.drop 2 _)) = xs[2]? := hfs 2 _ rfl
  have hx : xs.length = 3 := hxl
  rw [c1, List.getElem?_eq_getElem (by omega)] at e0
  rw [c1, List.getElem?_eq_getElem (by omega)] at e1
  rw [c2, List.getElem?_eq_getElem (by omega)] at e2
  obtain ⟨n0, h0, _, w0⟩ := DataW.trod_int Try.underlying30 e0
  obtain ⟨n1, h1, _, w1⟩ := DataW.trod_int Try.underlying30 e1
  obtain ⟨n2, h2, _, w2⟩ := DataW.trod_int Try.underlying5 e2
  have b0 := bounds_u16 w0
  have b1 := bounds_u16 w1
  have b2 := bounds_u8 w2
  rw [hl] at hlen
  refine ⟨⟨n0.toNat, n1.toNat, n2.toNat⟩, ?_, by show n0.toNat < _; omega, by show n1.toNat < _; omega, by show n2.toNat < _; omega⟩
  rw [three_cellsP hlen h0 h1 h2]
  show _ = [Value.int .u16 ((n0.toNat : Nat) : Int), .int .u16 ((n1.toNat : Nat) : Int), .int .u8 ((n2.toNat : Nat) : Int)]
  rw [Int.toNat_of_nonneg b0.1, Int.toNat_of_nonneg b1.1, Int.toNat_of_nonneg b2.1]
variable {base : Nat} {v : Value} {d : DataW H} {ps : List MemPlace}
set_option maxRecDepth 20000 in
theorem open_part (hval : Value.okWide Try.prog W .any base 32 v) (h0 : DataW.Trod enc Try.prog W 0 (fun _ => true) true 32 v d ps) : ∃ x y z : Nat, v = .agg #[.int .u16 (x : Int), .int .u16 (y : Int), .int .u8 (z : Int)] ∧ x < 65536 ∧ y < 65536 ∧ z < 256 := by
  unfold Value.okWide at hval
  rw [Try.underlying32] at hval
  obtain ⟨cs, rfl, hsz, _⟩ := hval
  obtain ⟨fuel, hf⟩ := h0
  obtain ⟨r, hcs, h1, h2, h3⟩ := open_pt hf
  refine ⟨r.at_, r.n, r.take, ?_, h1, h2, h3⟩
  have hcs' : cs.toList = [.int .u16 (r.at_ : Int), .int .u16 (r.n : Int), .int .u8 (r.take : Int)] := hcs
  congr 1
  apply Array.ext'
  exact hcs'
set_option maxRecDepth 100000 in
theorem open_parts (hval : Value.okWide Try.prog W .any base 23 v) (h0 : DataW.Trod enc Try.prog W 0 (fun _ => true) true 23 v d ps) :
    ∃ q : PL, v = .slice q.a q.len q.cap ∧ q.Ok W := by
  obtain ⟨a0, len0, cap0, rfl⟩ := okWide_slice Try.underlying23 hval
  obtain ⟨fuel, hf⟩ := h0
  rcases DataW.trod_slice Try.underlying23 hf with ⟨hcs, hx⟩ | ⟨a, len, cap, elems, rest, n, _, hcs, hx, _, hl, hm, hlen, hel, hsp, _⟩
  · have hcs' : [Value.slice a0 len0 cap0] = [Value.slice none 0 0] := hcs
    exact ⟨⟨none, 0, 0, 0, 0, []⟩, List.head_eq_of_cons_eq hcs', ⟨rfl, Nat.le_refl _, fun _ => ⟨rfl, rfl⟩, fun p => absurd p (Nat.lt_irrefl _), fun p => absurd p (Nat.lt_irrefl _), fun _ h => absurd h (Nat.not_lt_zero _), fun _ => ⟨by show (0 : Nat) < _; decide, by show (0 : Nat) < _; decide, by show (0 : Nat) < _; decide⟩⟩⟩
  · have hc2 : Try.prog.cellsOf 32 = 3 := by kernel_rfl
    have each : ∀ i, i < len → ∃ r : Part, W.cell? ((a.add (i * 3)).add 0) = some (.int .u16 (r.at_ : Int)) ∧ W.cell? ((a.add (i * 3)).add 1) = some (.int .u16 (r.n : Int)) ∧ W.cell? ((a.add (i * 3)).add 2) = some (.int .u8 (r.take : Int)) ∧ r.at_ < 65536 ∧ r.n < 65536 ∧ r.take < 256 := by
      intro i hi
      have h := hel i hi
      rw [hc2, List.getElem?_eq_getElem (by omega), Option.bind_eq_some_iff] at h
      obtain ⟨cs', h1, h2⟩ := h
      obtain ⟨_, h3, h4⟩ := World.cells?_some h1
      obtain ⟨r, h5, h6, h7, h8⟩ := open_pt h2
      rw [h5] at h4
      exact ⟨r, h4 0 (by decide), h4 1 (by decide), h4 2 (by decide), h6, h7, h8⟩
    obtain ⟨l, hll, hl2⟩ := pick_list len each
    obtain ⟨g, off, spot⟩ := a
    have hspot : 0 < len → spot = none := fun p => by
      obtain ⟨r, h1, _⟩ := each 0 p
      have := World.cell?_spot h1
      simpa [Addr.add] using this
    have hcs' : [Value.slice a0 len0 cap0] = [Value.slice (some ⟨g, off, spot⟩) len cap] := hcs
    refine ⟨⟨some ⟨g, off, spot⟩, len, cap, g, off, l⟩, List.head_eq_of_cons_eq hcs', ⟨hll, hl, (fun e => by cases e), fun p => by rw [hspot p], fun p => ?_, fun j hj => ?_, fun j => ?_⟩⟩
    · obtain rfl := hspot p
      obtain ⟨r, h1, _⟩ := each 0 p
      rcases Nat.lt_or_ge g W.heap.size with q | q
      · exact q
      · exfalso
        simp [World.cell?, Addr.add, Array.getElem?_eq_none q] at h1
    · have hj' : j < len := hj
      obtain rfl := hspot (by omega)
      obtain ⟨r, h0, h1, h2, h3, _⟩ := hl2 j hj'
      have e : gp l j = r := by unfold gp; rw [h0]; rfl
      rw [Addr.add_mid, Addr.add_mid] at h1 h2 h3
      show W.cell? ⟨g, off + j * 3, none⟩ = some (.int .u16 ((gp l j).at_ : Int)) ∧ W.cell? ⟨g, off + j * 3 + 1, none⟩ = some (.int .u16 ((gp l j).n : Int)) ∧ W.cell? ⟨g, off + j * 3 + 2, none⟩ = some (.int .u8 ((gp l j).take : Int))
      rw [e]
      exact ⟨by rw [← h1, Nat.add_zero], h2, h3⟩
    · show (gp l j).at_ < _ ∧ (gp l j).n < _ ∧ (gp l j).take < _
      rcases Nat.lt_or_ge j len with q | q
      · obtain ⟨r, h0, _, _, _, h3, h4, h5⟩ := hl2 j q
        have e : gp l j = r := by unfold gp; rw [h0]; rfl
        rw [e]
        exact ⟨h3, h4, h5⟩
      · have e : gp l j = ⟨0, 0, 0⟩ := by unfold gp; rw [List.getElem?_eq_none (by omega)]; rfl
        rw [e]
        exact ⟨by decide, by decide, by decide⟩
end
end Go.Proofs.Ytmekhhabkljffaa
