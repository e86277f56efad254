/-
  Out of ShaLiftS, KyOpenS, PkOpen13.
-/
import Derived.Test.YtbheoldakmcppaaGreatDoorGs9
import Derived.Test.YtbheoldakmcppaaGreatDoorGs1
import Derived.Test.YtbheoldakmcppaaGreatDoorGs15
import Derived.SizedLaws
import Derived.Test.YtbheoldakmcppaaGreatDoorGs44

/-! A slice of bytes that came in, as the walks ask it. -/
namespace Go.Proofs.YtbheoldakmcppaaGreatDoor
open Go Go.ChangeShapes Go.WideShapes Go.ChangeAt Go.RowKit

structure IsRowB (w : World) (a : Option Addr) (len cap g off : Nat) (b : List By) : Prop where
  hlen : b.length = len
  hmost : len ≤ 9223372036854775807
  hcap : len ≤ cap
  hnil : a = none → len = 0 ∧ cap = 0
  at_ : 0 < len → a = some ⟨g, off, none⟩
  hlt : 0 < len → g < w.heap.size
  hcell : ∀ j : Nat, j < len → w.cell? ⟨g, off + j, none⟩ = some (.int .u8 (v8 (gb b j)))

theorem isRowB_of {w : World} {a : Option Addr} {len cap : Nat} (h : (a = none ∧ len = 0 ∧ cap = 0) ∨ ∃ (x : Addr) (zs : List Int), a = some x ∧ len ≤ cap ∧ cap ≤ maxLen ∧ zs.length = cap ∧ (∀ i, i < zs.length → w.cell? (x.add i) = some (.int .u8 (zs.getD i 0))) ∧ ∀ n ∈ zs, (Lit.int .u8 n).wf = true) :
    ∃ g off b, IsRowB w a len cap g off b := by
  rcases h with ⟨rfl, rfl, rfl⟩ | ⟨x, zs, rfl, hl, hm, hz, hc, hw⟩
  · exact ⟨0, 0, [], rfl, by omega, Nat.le_refl _, fun _ => ⟨rfl, rfl⟩, fun h => by omega, fun h => by omega, fun j h => by omega⟩
  · unfold maxLen at hm
    obtain ⟨g, off, spot⟩ := x
    have hlen : ((zs.take len).map fun z => (BitVec.ofNat 8 z.toNat : By)).length = len := by rw [List.length_map, List.length_take]; omega
    have hsp : 0 < len → spot = none := fun h0 => by
      have hc0 := hc 0 (by omega)
      simpa [Addr.add] using World.cell?_spot hc0
    have hcell : ∀ j : Nat, j < len → w.cell? ⟨g, off + j, none⟩ = some (.int .u8 (v8 (gb ((zs.take len).map fun z => (BitVec.ofNat 8 z.toNat : By)) j))) := fun j hj => by
      obtain rfl := hsp (by omega)
      have h1 := hc j (by omega)
      rw [add_at] at h1
      rw [h1]
      have hjz : j < zs.length := by omega
      have hmem : zs[j]'hjz ∈ zs := List.getElem_mem hjz
      have hb := bounds_u8 (hw _ hmem)
      unfold gb v8
      rw [List.getElem?_map, List.getElem?_take_of_lt hj, List.getElem?_eq_getElem hjz, List.getD_eq_getElem?_getD, List.getElem?_eq_getElem hjz]
      simp only [Option.map_some, Option.getD_some, BitVec.toNat_ofNat]
      congr 2
      omega
    refine ⟨g, off, (zs.take len).map fun z => (BitVec.ofNat 8 z.toNat : By), hlen, by omega, hl, fun h => (by cases h), fun h => by rw [hsp h], fun h => ?_, hcell⟩
    have h1 := hcell 0 h
    rcases Nat.lt_or_ge g w.heap.size with h2 | h2
    · exact h2
    · exfalso
      simp [World.cell?, Array.getElem?_eq_none h2] at h1
end Go.Proofs.YtbheoldakmcppaaGreatDoor

/-! Slices of bytes that came in, with the form's own reach; two of them in an array. -/
namespace Go.Proofs.YtbheoldakmcppaaGreatDoor
open Go Go.ChangeShapes Go.WideShapes Go.ChangeAt Go.RowKit

set_option maxRecDepth 100000 in
theorem open_cells12 {H : Type} {enc : TypeId × Value → H} {W : World} {fuel : Nat} {cs : List Value} {x : DataW H × List MemPlace} (hf : DataW.trod enc Tryz.prog W 0 (fun _ => true) true fuel 22 cs = some x) :
    ∃ q : SL, cs = [.slice q.a q.len q.cap] ∧ q.Ok W ∧ ((∀ m ∈ x.1.weights Tryz.prog 22, m ≤ reachBytes) → q.len ≤ 140737488351232) := by
  rcases open_ints Tryz.underlying22 Tryz.underlying5 (by kernel_rfl) hf with ⟨hcs, hx⟩ | ⟨x0, l, c, zs, hcs, _, hl, hm, hz, hx, hcell, hwz⟩
  · obtain ⟨g, off, b, hr⟩ := isRowB_of (w := W) (a := none) (len := 0) (cap := 0) (.inl ⟨rfl, rfl, rfl⟩)
    exact ⟨⟨none, 0, 0, g, off, b⟩, hcs, ⟨hr.hlen, hr.hcap, hr.hnil, hr.at_, hr.hlt, hr.hcell⟩, fun _ => Nat.zero_le _⟩
  · have hz' : zs.length = c := by simpa using hz
    obtain ⟨g, off, b, hr⟩ := isRowB_of (w := W) (a := some x0) (len := l) (cap := c) (.inr ⟨_, zs, rfl, hl, hm, hz', hcell, hwz⟩)
    refine ⟨⟨some x0, l, c, g, off, b⟩, hcs, ⟨hr.hlen, hr.hcap, hr.hnil, hr.at_, hr.hlt, hr.hcell⟩, fun hw => ?_⟩
    have e : x.1 = .slice (lits .u8 (zs.take l)) (lits .u8 (zs.drop l)) := congrArg Prod.fst hx
    rw [e] at hw
    have h := hw _ (show ((lits .u8 (zs.take l) : List (DataW H)).length + (lits .u8 (zs.drop l) : List (DataW H)).length) * Tryz.prog.bytesOf 5 ∈ _ by simp [DataW.weights, Tryz.underlying22])
    have hb : Tryz.prog.bytesOf 5 = 1 := by kernel_rfl
    rw [hb] at h
    have hr47 : reachBytes = 140737488351232 := rfl
    rw [hr47] at h
    simp only [lits, List.length_map, List.length_take, List.length_drop] at h
    show l ≤ _
    omega
end Go.Proofs.YtbheoldakmcppaaGreatDoor

/-! A packet to be sealed that came in. Written by mkpo13.py. -/
namespace Go.Proofs.YtbheoldakmcppaaGreatDoor
open Go Go.ChangeShapes Go.WideShapes Go.ChangeAt Go.RowKit

section
variable {H : Type} {enc : TypeId × Value → H} {W : World}
theorem open_num13 {fuel : Nat} {cs : List Value} {x : DataW H × List MemPlace} (hf : DataW.trod enc Tryz.prog W 0 (fun _ => true) true fuel 23 cs = some x) : ∃ n : Nat, cs = [.int .u64 (n : Int)] := by
  obtain ⟨n, h1, _, h3⟩ := DataW.trod_int Tryz.underlying23 hf
  have hb := bounds_u64 h3
  exact ⟨n.toNat, by rw [h1, Int.toNat_of_nonneg hb.1]⟩
set_option maxRecDepth 100000 in
theorem open_head13 {fuel : Nat} {cs : List Value} {x : DataW H × List MemPlace} (hf : DataW.trod enc Tryz.prog W 0 (fun _ => true) true fuel 25 cs = some x) :
    ∃ h : HD, cs = h.cells.toList ∧ h.Ok W ∧ ((∀ m ∈ x.1.weights Tryz.prog 25, m ≤ reachBytes) → h.tu.len ≤ 140737488351232 ∧ h.fr.len ≤ 140737488351232) := by
  obtain ⟨xs, n, _, hxd, hlen, hxl, hfs⟩ := DataW.trod_struct Tryz.underlying25 hf
  have hl : Tryz.prog.cellsOf 25 = 5 := by kernel_rfl
  rw [hl] at hlen
  have hx : xs.length = 5 := hxl
  have c0 : Tryz.prog.cellsOf 4 = 1 := by kernel_rfl
  have e0 : DataW.trod enc Tryz.prog W 0 (fun _ => true) true n 4 (List.take (Tryz.prog.cellsOf 4) (List.drop 0 _)) = xs[0]? := hfs 0 _ rfl
  rw [c0, List.getElem?_eq_getElem (by omega)] at e0
  have c1 : Tryz.prog.cellsOf 22 = 1 := by kernel_rfl
  have e1 : DataW.trod enc Tryz.prog W 0 (fun _ => true) true n 22 (List.take (Tryz.prog.cellsOf 22) (List.drop 1 _)) = xs[1]? := hfs 1 _ rfl
  rw [c1, List.getElem?_eq_getElem (by omega)] at e1
  have c2 : Tryz.prog.cellsOf 22 = 1 := by kernel_rfl
  have e2 : DataW.trod enc Tryz.prog W 0 (fun _ => true) true n 22 (List.take (Tryz.prog.cellsOf 22) (List.drop 2 _)) = xs[2]? := hfs 2 _ rfl
  rw [c2, List.getElem?_eq_getElem (by omega)] at e2
  have c3 : Tryz.prog.cellsOf 23 = 1 := by kernel_rfl
  have e3 : DataW.trod enc Tryz.prog W 0 (fun _ => true) true n 23 (List.take (Tryz.prog.cellsOf 23) (List.drop 3 _)) = xs[3]? := hfs 3 _ rfl
  rw [c3, List.getElem?_eq_getElem (by omega)] at e3
  have c4 : Tryz.prog.cellsOf 4 = 1 := by kernel_rfl
  have e4 : DataW.trod enc Tryz.prog W 0 (fun _ => true) true n 4 (List.take (Tryz.prog.cellsOf 4) (List.drop 4 _)) = xs[4]? := hfs 4 _ rfl
  rw [c4, List.getElem?_eq_getElem (by omega)] at e4
  obtain ⟨b0, h0, _⟩ := DataW.trod_bool Tryz.underlying4 e0
  obtain ⟨s1, h1, ok1, w1⟩ := open_cells12 e1
  obtain ⟨s2, h2, ok2, w2⟩ := open_cells12 e2
  obtain ⟨n3, h3⟩ := open_num13 e3
  obtain ⟨b4, h4, _⟩ := DataW.trod_bool Tryz.underlying4 e4
  refine ⟨⟨b0, s1, s2, n3, b4⟩, ?_, ⟨ok1, ok2⟩, fun hw => ⟨w1 fun m hm => hw m ?_, w2 fun m hm => hw m ?_⟩⟩
  · match cs, hlen with
    | [a, b, c, d, e], _ =>
      simp at h0 h1 h2 h3 h4
      rw [h0, h1, h2, h3, h4]
      rfl
  · have hd : x.1 = .agg (xs.map (·.1)) := congrArg Prod.fst hxd
    rw [hd]
    unfold DataW.weights
    rw [Tryz.underlying25]
    refine DataW.weights_mem_each (j := 1) (t := 22) rfl (d := (xs[1]'(by omega)).1) ?_ m hm
    rw [List.getElem?_map, List.getElem?_eq_getElem (by omega)]
    rfl
  · have hd : x.1 = .agg (xs.map (·.1)) := congrArg Prod.fst hxd
    rw [hd]
    unfold DataW.weights
    rw [Tryz.underlying25]
    refine DataW.weights_mem_each (j := 2) (t := 22) rfl (d := (xs[2]'(by omega)).1) ?_ m hm
    rw [List.getElem?_map, List.getElem?_eq_getElem (by omega)]
    rfl
set_option maxRecDepth 100000 in
theorem open_keys13 {fuel : Nat} {cs : List Value} {x : DataW H × List MemPlace} (hf : DataW.trod enc Tryz.prog W 0 (fun _ => true) true fuel 27 cs = some x) :
    ∃ k : KS, cs = k.cells.toList ∧ k.Ok W ∧ ((∀ m ∈ x.1.weights Tryz.prog 27, m ≤ reachBytes) → k.key.len ≤ 140737488351232 ∧ k.iv.len ≤ 140737488351232 ∧ k.mask.len ≤ 140737488351232) := by
  obtain ⟨xs, n, _, hxd, hlen, hxl, hfs⟩ := DataW.trod_struct Tryz.underlying27 hf
  have hl : Tryz.prog.cellsOf 27 = 3 := by kernel_rfl
  rw [hl] at hlen
  have hx : xs.length = 3 := hxl
  have c0 : Tryz.prog.cellsOf 22 = 1 := by kernel_rfl
  have e0 : DataW.trod enc Tryz.prog W 0 (fun _ => true) true n 22 (List.take (Tryz.prog.cellsOf 22) (List.drop 0 _)) = xs[0]? := hfs 0 _ rfl
  rw [c0, List.getElem?_eq_getElem (by omega)] at e0
  have c1 : Tryz.prog.cellsOf 22 = 1 := by kernel_rfl
  have e1 : DataW.trod enc Tryz.prog W 0 (fun _ => true) true n 22 (List.take (Tryz.prog.cellsOf 22) (List.drop 1 _)) = xs[1]? := hfs 1 _ rfl
  rw [c1, List.getElem?_eq_getElem (by omega)] at e1
  have c2 : Tryz.prog.cellsOf 22 = 1 := by kernel_rfl
  have e2 : DataW.trod enc Tryz.prog W 0 (fun _ => true) true n 22 (List.take (Tryz.prog.cellsOf 22) (List.drop 2 _)) = xs[2]? := hfs 2 _ rfl
  rw [c2, List.getElem?_eq_getElem (by omega)] at e2
  obtain ⟨s0, h0, ok0, w0⟩ := open_cells12 e0
  obtain ⟨s1, h1, ok1, w1⟩ := open_cells12 e1
  obtain ⟨s2, h2, ok2, w2⟩ := open_cells12 e2
  refine ⟨⟨s0, s1, s2⟩, ?_, ⟨ok0, ok1, ok2⟩, fun hw => ⟨w0 fun m hm => hw m ?_, w1 fun m hm => hw m ?_, w2 fun m hm => hw m ?_⟩⟩
  · match cs, hlen with
    | [a, b, c], _ =>
      simp at h0 h1 h2
      rw [h0, h1, h2]
      rfl
  · have hd : x.1 = .agg (xs.map (·.1)) := congrArg Prod.fst hxd
    rw [hd]
    unfold DataW.weights
    rw [Tryz.underlying27]
    refine DataW.weights_mem_each (j := 0) (t := 22) rfl (d := (xs[0]'(by omega)).1) ?_ m hm
    rw [List.getElem?_map, List.getElem?_eq_getElem (by omega)]
    rfl
  · have hd : x.1 = .agg (xs.map (·.1)) := congrArg Prod.fst hxd
    rw [hd]
    unfold DataW.weights
    rw [Tryz.underlying27]
    refine DataW.weights_mem_each (j := 1) (t := 22) rfl (d := (xs[1]'(by omega)).1) ?_ m hm
    rw [List.getElem?_map, List.getElem?_eq_getElem (by omega)]
    rfl
  · have hd : x.1 = .agg (xs.map (·.1)) := congrArg Prod.fst hxd
    rw [hd]
    unfold DataW.weights
    rw [Tryz.underlying27]
    refine DataW.weights_mem_each (j := 2) (t := 22) rfl (d := (xs[2]'(by omega)).1) ?_ m hm
    rw [List.getElem?_map, List.getElem?_eq_getElem (by omega)]
    rfl
theorem ten_cells {l a b c d : List Value} (hl : l.length = 10) (h0 : (l.drop 0).take 5 = a) (h1 : (l.drop 5).take 1 = b) (h2 : (l.drop 6).take 1 = c) (h3 : (l.drop 7).take 3 = d) : l = a ++ b ++ c ++ d := by
  subst h0 h1 h2 h3
  match l, hl with
  | [_, _, _, _, _, _, _, _, _, _], _ => rfl
set_option maxRecDepth 100000 in
theorem open_seal13 {base : Nat} {v : Value} {d : DataW H} {ps : List MemPlace} (hval : Value.okWide Tryz.prog W .any base 29 v) (h0 : DataW.Trod enc Tryz.prog W 0 (fun _ => true) true 29 v d ps) :
    ∃ (h : HD) (N : Int) (p : SL) (k : KS), v = .agg (sealC h N p k) ∧ h.Ok W ∧ p.Ok W ∧ k.Ok W ∧ -9223372036854775808 ≤ N ∧ N ≤ 9223372036854775807 ∧
      ((∀ m ∈ d.weights Tryz.prog 29, m ≤ reachBytes) → (h.tu.len ≤ 140737488351232 ∧ h.fr.len ≤ 140737488351232) ∧ p.len ≤ 140737488351232 ∧ k.key.len ≤ 140737488351232 ∧ k.iv.len ≤ 140737488351232 ∧ k.mask.len ≤ 140737488351232) := by
  unfold Value.okWide at hval
  rw [Tryz.underlying29] at hval
  obtain ⟨cs, rfl, _⟩ := hval
  obtain ⟨fuel, hf⟩ := h0
  obtain ⟨xs, n, _, hxd, hlen, hxl, hfs⟩ := DataW.trod_struct Tryz.underlying29 hf
  have hl : Tryz.prog.cellsOf 29 = 10 := by kernel_rfl
  rw [hl] at hlen
  have hx : xs.length = 4 := hxl
  have c0 : Tryz.prog.cellsOf 25 = 5 := by kernel_rfl
  have e0 : DataW.trod enc Tryz.prog W 0 (fun _ => true) true n 25 (List.take (Tryz.prog.cellsOf 25) (List.drop 0 _)) = xs[0]? := hfs 0 _ rfl
  rw [c0, List.getElem?_eq_getElem (by omega)] at e0
  have c1 : Tryz.prog.cellsOf 3 = 1 := by kernel_rfl
  have e1 : DataW.trod enc Tryz.prog W 0 (fun _ => true) true n 3 (List.take (Tryz.prog.cellsOf 3) (List.drop 5 _)) = xs[1]? := hfs 1 _ rfl
  rw [c1, List.getElem?_eq_getElem (by omega)] at e1
  have c2 : Tryz.prog.cellsOf 22 = 1 := by kernel_rfl
  have e2 : DataW.trod enc Tryz.prog W 0 (fun _ => true) true n 22 (List.take (Tryz.prog.cellsOf 22) (List.drop 6 _)) = xs[2]? := hfs 2 _ rfl
  rw [c2, List.getElem?_eq_getElem (by omega)] at e2
  have c3 : Tryz.prog.cellsOf 27 = 3 := by kernel_rfl
  have e3 : DataW.trod enc Tryz.prog W 0 (fun _ => true) true n 27 (List.take (Tryz.prog.cellsOf 27) (List.drop 7 _)) = xs[3]? := hfs 3 _ rfl
  rw [c3, List.getElem?_eq_getElem (by omega)] at e3
  obtain ⟨h, h0, ok0, w0⟩ := open_head13 e0
  obtain ⟨N, h1, _, hN⟩ := DataW.trod_int Tryz.underlying3 e1
  obtain ⟨p, h2, ok2, w2⟩ := open_cells12 e2
  obtain ⟨k, h3, ok3, w3⟩ := open_keys13 e3
  have hb := bounds_i64 hN
  refine ⟨h, N, p, k, ?_, ok0, ok2, ok3, by omega, by omega, fun hw => ⟨w0 fun m hm => hw m ?_, w2 fun m hm => hw m ?_, w3 fun m hm => hw m ?_⟩⟩
  · have e := ten_cells hlen h0 h1 h2 h3
    congr 1
    apply Array.ext'
    exact e
  · have hd : d = .agg (xs.map (·.1)) := congrArg Prod.fst hxd
    rw [hd]
    unfold DataW.weights
    rw [Tryz.underlying29]
    refine DataW.weights_mem_each (j := 0) (t := 25) rfl (d := (xs[0]'(by omega)).1) ?_ m hm
    rw [List.getElem?_map, List.getElem?_eq_getElem (by omega)]
    rfl
  · have hd : d = .agg (xs.map (·.1)) := congrArg Prod.fst hxd
    rw [hd]
    unfold DataW.weights
    rw [Tryz.underlying29]
    refine DataW.weights_mem_each (j := 2) (t := 22) rfl (d := (xs[2]'(by omega)).1) ?_ m hm
    rw [List.getElem?_map, List.getElem?_eq_getElem (by omega)]
    rfl
  · have hd : d = .agg (xs.map (·.1)) := congrArg Prod.fst hxd
    rw [hd]
    unfold DataW.weights
    rw [Tryz.underlying29]
    refine DataW.weights_mem_each (j := 3) (t := 27) rfl (d := (xs[3]'(by omega)).1) ?_ m hm
    rw [List.getElem?_map, List.getElem?_eq_getElem (by omega)]
    rfl
end
end Go.Proofs.YtbheoldakmcppaaGreatDoor
