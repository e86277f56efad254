/-
  A key, a nonce and what stands beside, that came in.
-/
import Derived.Test.YtffokggejbmadaaGreatDoorGzAeGreat
import Derived.Test.YtffokggejbmadaaGreatDoorGz5
namespace Go.Proofs.YtffokggejbmadaaGreatDoor
open Go Go.ChangeShapes Go.WideShapes Go.ChangeAt Go.RowKit

set_option maxRecDepth 100000 in
theorem open_cells {H : Type} {enc : TypeId × Value → H} {W : World} {fuel : Nat} {cs : List Value} {x : DataW H × List MemPlace} (hf : DataW.trod enc Tryz.prog W 0 (fun _ => true) true fuel 22 cs = some x) :
    ∃ q : SL, cs = [.slice q.a q.len q.cap] ∧ q.Ok W ∧ ((∀ m ∈ x.1.weights Tryz.prog 22, m ≤ reachBytes) → q.len ≤ 140737488355328) := by
  rcases open_ints Tryz.underlying22 Tryz.underlying5 (by kernel_rfl) hf with ⟨hcs, hx⟩ | ⟨x0, l, c, zs, hcs, _, hl, hm, hz, hx, hcell, hwz⟩
  · obtain ⟨g, off, b, hr⟩ := isRowB_of (w := W) (a := none) (len := 0) (cap := 0) (.inl ⟨rfl, rfl, rfl⟩)
    exact ⟨⟨none, 0, 0, g, off, b⟩, hcs, ⟨hr.hlen, hr.hcap, hr.hnil, hr.at_, hr.hlt, hr.hcell⟩, fun _ => Nat.zero_le _⟩
  · have hz' : zs.length = c := by simpa using hz
    obtain ⟨g, off, b, hr⟩ := isRowB_of (w := W) (a := some x0) (len := l) (cap := c) (.inr ⟨_, zs, rfl, hl, hm, hz', hcell, hwz⟩)
    refine ⟨⟨some x0, l, c, g, off, b⟩, hcs, ⟨hr.hlen, hr.hcap, hr.hnil, hr.at_, hr.hlt, hr.hcell⟩, fun hw => ?_⟩
    have e : x.1 = .slice (lits .u8 (zs.take l)) (lits .u8 (zs.drop l)) := congrArg Prod.fst hx
    rw [e] at hw
    have h := hw _ (show ((lits .u8 (zs.take l) : List (DataW H)).length + (lits .u8 (zs.drop l) : List (DataW H)).length) * Tryz.prog.bytesOf 5 ∈ _ by simp [DataW.weights, Tryz.underlying22])
    have hb : Tryz.prog.bytesOf 5 = 1 := by kernel_rfl
    rw [hb] at h
    have hr47 := reachBytes_lt
    simp only [lits, List.length_map, List.length_take, List.length_drop] at h
    show l ≤ _
    omega

set_option maxRecDepth 100000 in
theorem three_cells {l : List Value} {a b c : Value} (h : l.length = 3) (h0 : (l.drop 0).take 1 = [a]) (h1 : (l.drop 1).take 1 = [b]) (h2 : (l.drop 2).take 1 = [c]) : l = [a, b, c] := by
  match l, h with
  | [x, y, z], _ => simp at h0 h1 h2; rw [h0, h1, h2]

set_option maxRecDepth 100000 in
theorem open_with {H : Type} {enc : TypeId × Value → H} {W : World} {base : Nat} {v : Value} {d : DataW H} {ps : List MemPlace} (hval : Value.okWide Tryz.prog W .any base 24 v) (h0 : DataW.Trod enc Tryz.prog W 0 (fun _ => true) true 24 v d ps) :
    ∃ (k n b : SL), v = .agg (withC k n b) ∧ k.Ok W ∧ n.Ok W ∧ b.Ok W ∧ ((∀ m ∈ d.weights Tryz.prog 24, m ≤ reachBytes) → k.len ≤ 140737488355328 ∧ n.len ≤ 140737488355328 ∧ b.len ≤ 140737488355328) := by
  unfold Value.okWide at hval
  rw [Tryz.underlying24] at hval
  obtain ⟨cs, rfl, _⟩ := hval
  obtain ⟨fuel, hf⟩ := h0
  obtain ⟨xs, n, _, hxd, hlen, hxl, hfs⟩ := DataW.trod_struct Tryz.underlying24 hf
  have hl3 : Tryz.prog.cellsOf 24 = 3 := by kernel_rfl
  have c22 : Tryz.prog.cellsOf 22 = 1 := by kernel_rfl
  have e0 : DataW.trod enc Tryz.prog W 0 (fun _ => true) true n 22 (List.take (Tryz.prog.cellsOf 22) (List.drop 0 _)) = xs[0]? := hfs 0 _ rfl
  have e1 : DataW.trod enc Tryz.prog W 0 (fun _ => true) true n 22 (List.take (Tryz.prog.cellsOf 22) (List.drop 1 _)) = xs[1]? := hfs 1 _ rfl
  have e2 : DataW.trod enc Tryz.prog W 0 (fun _ => true) true n 22 (List.take (Tryz.prog.cellsOf 22) (List.drop 2 _)) = xs[2]? := hfs 2 _ rfl
  have hx3 : xs.length = 3 := hxl
  rw [c22, List.getElem?_eq_getElem (by omega)] at e0
  rw [c22, List.getElem?_eq_getElem (by omega)] at e1
  rw [c22, List.getElem?_eq_getElem (by omega)] at e2
  obtain ⟨s0, hs0, ok0, hw0⟩ := open_cells e0
  obtain ⟨s1, hs1, ok1, hw1⟩ := open_cells e1
  obtain ⟨s2, hs2, ok2, hw2⟩ := open_cells e2
  rw [hl3] at hlen
  have := three_cells hlen hs0 hs1 hs2
  have hd : d = .agg (xs.map (·.1)) := congrArg Prod.fst hxd
  refine ⟨s0, s1, s2, ?_, ok0, ok1, ok2, fun hw => ⟨hw0 fun m hm => hw m ?_, hw1 fun m hm => hw m ?_, hw2 fun m hm => hw m ?_⟩⟩
  · congr 1
    apply Array.ext'
    exact this
  all_goals
    rw [hd]
    unfold DataW.weights
    rw [Tryz.underlying24]
  · refine DataW.weights_mem_each (j := 0) (t := 22) rfl (d := (xs[0]'(by omega)).1) ?_ m hm
    rw [List.getElem?_map, List.getElem?_eq_getElem (by omega)]
    rfl
  · refine DataW.weights_mem_each (j := 1) (t := 22) rfl (d := (xs[1]'(by omega)).1) ?_ m hm
    rw [List.getElem?_map, List.getElem?_eq_getElem (by omega)]
    rfl
  · refine DataW.weights_mem_each (j := 2) (t := 22) rfl (d := (xs[2]'(by omega)).1) ?_ m hm
    rw [List.getElem?_map, List.getElem?_eq_getElem (by omega)]
    rfl
end Go.Proofs.YtffokggejbmadaaGreatDoor
