/-
  Operations that came in.
-/
import Derived.Test.YtekgdljbninjiaaDoorGpPcMemO
import Derived.Test.YtekgdljbninjiaaDoorGp8
import Derived.SizedLaws
import Derived.OpenShut
namespace Go.Proofs.YtekgdljbninjiaaDoor
open Go Go.ChangeShapes Go.WideShapes Go.ChangeAt Go.RowKit

theorem pick_listO {α : Type} {Pr : Nat → α → Prop} : ∀ (n : Nat), (∀ i, i < n → ∃ r, Pr i r) → ∃ l : List α, l.length = n ∧ ∀ i, i < n → ∃ r, l[i]? = some r ∧ Pr i r
  | 0, _ => ⟨[], rfl, fun i hi => absurd hi (Nat.not_lt_zero _)⟩
  | n + 1, h => by
    obtain ⟨l, h1, h2⟩ := pick_listO n (fun i hi => h i (by omega))
    obtain ⟨r, hr⟩ := h n (by omega)
    refine ⟨l ++ [r], by rw [List.length_append, h1]; rfl, fun i hi => ?_⟩
    rcases Nat.lt_or_ge i n with q | q
    · obtain ⟨r', h3, h4⟩ := h2 i q
      exact ⟨r', by rw [List.getElem?_append_left (by omega)]; exact h3, h4⟩
    · obtain rfl : i = n := by omega
      exact ⟨r, by rw [List.getElem?_append_right (by omega), h1, Nat.sub_self]; rfl, hr⟩
theorem weights_mem_all {H : Type} {P : Program} {e : TypeId} : ∀ {ds : List (DataW H)} {j : Nat} {d : DataW H}, ds[j]? = some d → ∀ n ∈ d.weights P e, n ∈ DataW.weightsAll P e ds
  | d0 :: ds, 0, d, hd, n, hn => by
    simp only [List.getElem?_cons_zero, Option.some.injEq] at hd
    subst hd
    simp only [DataW.weightsAll, List.mem_append]
    exact Or.inl hn
  | d0 :: ds, j + 1, d, hd, n, hn => by
    rw [List.getElem?_cons_succ] at hd
    simp only [DataW.weightsAll, List.mem_append]
    exact Or.inr (weights_mem_all hd n hn)
section
variable {H : Type} {enc : TypeId × Value → H} {W : World}
set_option maxRecDepth 100000 in
theorem open_sl9 {fuel : Nat} {cs : List Value} {x : DataW H × List MemPlace} (hf : DataW.trod enc Tryd.prog W 0 (fun _ => true) true fuel 49 cs = some x) :
    ∃ q : SL, cs = [.slice q.a q.len q.cap] ∧ q.Ok W ∧ ((∀ m ∈ x.1.weights Tryd.prog 49, m ≤ reachBytes) → q.len ≤ 140737488355328) := by
  rcases open_ints Tryd.underlying49 Tryd.underlying5 (by kernel_rfl) hf with ⟨hcs, hx⟩ | ⟨x0, l, c, zs, hcs, _, hl, hm, hz, hx, hcell, hwz⟩
  · obtain ⟨g, off, b, hr⟩ := isRowB_of (w := W) (a := none) (len := 0) (cap := 0) (.inl ⟨rfl, rfl, rfl⟩)
    exact ⟨⟨none, 0, 0, g, off, b⟩, hcs, ⟨hr.hlen, hr.hcap, hr.hnil, hr.at_, hr.hlt, hr.hcell⟩, fun _ => Nat.zero_le _⟩
  · have hz' : zs.length = c := by simpa using hz
    obtain ⟨g, off, b, hr⟩ := isRowB_of (w := W) (a := some x0) (len := l) (cap := c) (.inr ⟨_, zs, rfl, hl, hm, hz', hcell, hwz⟩)
    refine ⟨⟨some x0, l, c, g, off, b⟩, hcs, ⟨hr.hlen, hr.hcap, hr.hnil, hr.at_, hr.hlt, hr.hcell⟩, fun hw => ?_⟩
    have e : x.1 = .slice (lits .u8 (zs.take l)) (lits .u8 (zs.drop l)) := congrArg Prod.fst hx
    rw [e] at hw
    have h := hw _ (show ((lits .u8 (zs.take l) : List (DataW H)).length + (lits .u8 (zs.drop l) : List (DataW H)).length) * Tryd.prog.bytesOf 5 ∈ _ by simp [DataW.weights, Tryd.underlying49])
    have hb : Tryd.prog.bytesOf 5 = 1 := by kernel_rfl
    rw [hb] at h
    have hr47 := reachBytes_lt
    simp only [lits, List.length_map, List.length_take, List.length_drop] at h
    show l ≤ _
    omega
theorem four_cellsO {l : List Value} {a b c d : Value} (hl : l.length = 4) (h0 : (l.drop 0).take 1 = [a]) (h1 : (l.drop 1).take 1 = [b]) (h2 : (l.drop 2).take 1 = [c]) (h3 : (l.drop 3).take 1 = [d]) : l = [a, b, c, d] := by
  match l, hl with
  | [x0, x1, x2, x3], _ => simp at h0 h1 h2 h3; rw [h0, h1, h2, h3]
set_option maxRecDepth 100000 in
theorem open_op {fuel : Nat} {cs : List Value} {x : DataW H × List MemPlace} (hf : DataW.trod enc Tryd.prog W 0 (fun _ => true) true fuel 51 cs = some x) :
    ∃ f : OpV, cs = f.cells.toList ∧ f.Ok W ∧ ((∀ m ∈ x.1.weights Tryd.prog 51, m ≤ reachBytes) → f.b.len ≤ 140737488355328) := by
  obtain ⟨xs, n, _, hxd, hlen, hxl, hfs⟩ := DataW.trod_struct Tryd.underlying51 hf
  have hl : Tryd.prog.cellsOf 51 = 4 := by kernel_rfl
  have cU : Tryd.prog.cellsOf 31 = 1 := by kernel_rfl
  have cI : Tryd.prog.cellsOf 3 = 1 := by kernel_rfl
  have cB : Tryd.prog.cellsOf 4 = 1 := by kernel_rfl
  have cD : Tryd.prog.cellsOf 49 = 1 := by kernel_rfl
  have hx : xs.length = 4 := hxl
  have e0 : DataW.trod enc Tryd.prog W 0 (fun _ => true) true n 31 (List.take (Tryd.prog.cellsOf 31) (List.drop 0 _)) = xs[0]? := hfs 0 _ rfl
  have e1 : DataW.trod enc Tryd.prog W 0 (fun _ => true) true n 49 (List.take (Tryd.prog.cellsOf 49) (List.drop 1 _)) = xs[1]? := hfs 1 _ rfl
  have e2 : DataW.trod enc Tryd.prog W 0 (fun _ => true) true n 4 (List.take (Tryd.prog.cellsOf 4) (List.drop 2 _)) = xs[2]? := hfs 2 _ rfl
  have e3 : DataW.trod enc Tryd.prog W 0 (fun _ => true) true n 3 (List.take (Tryd.prog.cellsOf 3) (List.drop 3 _)) = xs[3]? := hfs 3 _ rfl
  rw [cU, List.getElem?_eq_getElem (by omega)] at e0
  rw [cD, List.getElem?_eq_getElem (by omega)] at e1
  rw [cB, List.getElem?_eq_getElem (by omega)] at e2
  rw [cI, List.getElem?_eq_getElem (by omega)] at e3
  obtain ⟨n0, h0, _, w0⟩ := DataW.trod_int Tryd.underlying31 e0
  obtain ⟨sd, h1, ok1, hw1⟩ := open_sl9 e1
  obtain ⟨b2, h2, _⟩ := DataW.trod_bool Tryd.underlying4 e2
  obtain ⟨n3, h3, _, w3⟩ := DataW.trod_int Tryd.underlying3 e3
  have b0 := bounds_u64 w0
  have b3 := bounds_i64 w3
  rw [hl] at hlen
  have hd : x.1 = .agg (xs.map (·.1)) := congrArg Prod.fst hxd
  refine ⟨⟨n0.toNat, sd, b2, n3⟩, ?_, ⟨ok1, by show n0.toNat < _; omega, b3.1, b3.2⟩, fun hw => hw1 fun m hm => hw m ?_⟩
  · rw [four_cellsO hlen h0 h1 h2 h3]
    unfold OpV.cells
    simp only
    rw [Int.toNat_of_nonneg b0.1]
  rw [hd]
  unfold DataW.weights
  rw [Tryd.underlying51]
  refine DataW.weights_mem_each (j := 1) (t := 49) rfl (d := (xs[1]'(by omega)).1) ?_ m hm
  rw [List.getElem?_map, List.getElem?_eq_getElem (by omega)]
  rfl
set_option maxRecDepth 100000 in
theorem open_ops9 {fuel : Nat} {cs : List Value} {x : DataW H × List MemPlace} (hf : DataW.trod enc Tryd.prog W 0 (fun _ => true) true fuel 22 cs = some x) :
    ∃ q : OL, cs = [.slice q.a q.len q.cap] ∧ q.Ok W ∧ ((∀ m ∈ x.1.weights Tryd.prog 22, m ≤ reachBytes) → q.len ≤ 140737488355328 ∧ ∀ j, j < q.len → (go q.l j).b.len ≤ 140737488355328) := by
  rcases DataW.trod_slice Tryd.underlying22 hf with ⟨hcs, hx⟩ | ⟨a, len, cap, elems, rest, n, _, hcs, hx, _, hl, hm, hlen, hel, hsp, _⟩
  · exact ⟨⟨none, 0, 0, 0, 0, []⟩, hcs, ⟨rfl, Nat.le_refl _, fun _ => ⟨rfl, rfl⟩, fun p => absurd p (Nat.lt_irrefl _), fun p => absurd p (Nat.lt_irrefl _), fun _ h => absurd h (Nat.not_lt_zero _), fun _ h => absurd h (Nat.not_lt_zero _)⟩, fun _ => ⟨Nat.zero_le _, fun _ h => absurd h (Nat.not_lt_zero _)⟩⟩
  · have hc8 : Tryd.prog.cellsOf 51 = 4 := by kernel_rfl
    have each : ∀ i, i < len → ∃ f : OpV, (∀ j, j < 4 → W.cell? ((a.add (i * 4)).add j) = f.cells.toList[j]?) ∧ f.Ok W ∧ ∃ e, elems[i]? = some e ∧ ((∀ m ∈ e.1.weights Tryd.prog 51, m ≤ reachBytes) → f.b.len ≤ 140737488355328) := by
      intro i hi
      have h := hel i hi
      rw [hc8, List.getElem?_eq_getElem (by omega), Option.bind_eq_some_iff] at h
      obtain ⟨cs', h1, h2⟩ := h
      obtain ⟨_, h3, h4⟩ := World.cells?_some h1
      obtain ⟨f, h5, h6, h7⟩ := open_op h2
      rw [h5] at h4
      exact ⟨f, h4, h6, _, List.getElem?_eq_getElem (by omega), h7⟩
    obtain ⟨l, hll, hl2⟩ := pick_listO len each
    obtain ⟨g, off, spot⟩ := a
    have hspot : 0 < len → spot = none := fun p => by
      obtain ⟨f, h1, _⟩ := each 0 p
      have := World.cell?_spot (h1 0 (by decide))
      simpa [Addr.add] using this
    have getl : ∀ j, j < len → ∃ f, go l j = f ∧ (∀ i, i < 4 → W.cell? (((⟨g, off, spot⟩ : Addr).add (j * 4)).add i) = f.cells.toList[i]?) ∧ f.Ok W ∧ ∃ e, elems[j]? = some e ∧ ((∀ m ∈ e.1.weights Tryd.prog 51, m ≤ reachBytes) → f.b.len ≤ 140737488355328) := by
      intro j hj
      obtain ⟨f, h0, h1⟩ := hl2 j hj
      exact ⟨f, by unfold go; rw [h0]; rfl, h1⟩
    refine ⟨⟨some ⟨g, off, spot⟩, len, cap, g, off, l⟩, hcs, ⟨hll, hl, (fun e => by cases e), fun p => by rw [hspot p], fun p => ?_, fun j hj => ?_, fun j hj => ?_⟩, fun hw => ?_⟩
    · obtain rfl := hspot p
      obtain ⟨f, h1, _⟩ := each 0 p
      have h2 := h1 0 (by decide)
      rcases Nat.lt_or_ge g W.heap.size with q | q
      · exact q
      · exfalso
        simp [World.cell?, Addr.add, Array.getElem?_eq_none q, OpV.cells] at h2
    · have hj' : j < len := hj
      obtain rfl := hspot (by omega)
      obtain ⟨f, e, h1, _⟩ := getl j hj'
      show W.rangeAt g (off + j * 4) (go l j).cells.toList
      rw [e]
      intro i u hu
      have hi : i < 4 := by have := (List.getElem?_eq_some_iff.1 hu).1; exact this
      have := h1 i hi
      rw [Addr.add_mid, Addr.add_mid] at this
      rw [this]
      exact hu
    · obtain ⟨f, e, _, h2, _⟩ := getl j hj
      show (go l j).Ok W
      rw [e]
      exact h2
    · have e : x.1 = .slice (elems.map (·.1)) (rest.map (·.1)) := congrArg Prod.fst hx
      rw [e] at hw
      refine ⟨?_, fun j hj => ?_⟩
      · have h := hw _ (show ((elems.map (·.1)).length + (rest.map (·.1)).length) * Tryd.prog.bytesOf 51 ∈ _ by simp [DataW.weights, Tryd.underlying22])
        have hb : Tryd.prog.bytesOf 51 = 48 := by kernel_rfl
        rw [hb] at h
        have hr47 := reachBytes_lt
        simp only [List.length_map] at h
        show len ≤ _
        omega
      · obtain ⟨f, e2, _, _, y, hy, h3⟩ := getl j hj
        show (go l j).b.len ≤ _
        rw [e2]
        refine h3 fun m hm => hw m ?_
        unfold DataW.weights
        rw [Tryd.underlying22]
        refine List.mem_cons_of_mem _ (List.mem_append_left _ (weights_mem_all (j := j) (d := y.1) ?_ m hm))
        rw [List.getElem?_map, hy]
        rfl
variable {base : Nat} {v : Value} {d : DataW H} {ps : List MemPlace}
set_option maxRecDepth 20000 in
theorem open_ops (hval : Value.okWide Tryd.prog W .any base 22 v) (h0 : DataW.Trod enc Tryd.prog W 0 (fun _ => true) true 22 v d ps) :
    ∃ q : OL, v = .slice q.a q.len q.cap ∧ q.Ok W ∧ ((∀ m ∈ d.weights Tryd.prog 22, m ≤ reachBytes) → q.len ≤ 140737488355328 ∧ ∀ j, j < q.len → (go q.l j).b.len ≤ 140737488355328) := by
  obtain ⟨a0, len0, cap0, rfl⟩ := okWide_slice Tryd.underlying22 hval
  obtain ⟨fuel, hf⟩ := h0
  obtain ⟨q, hcs, h⟩ := open_ops9 hf
  refine ⟨q, ?_, h⟩
  have hcs' : [Value.slice a0 len0 cap0] = [Value.slice q.a q.len q.cap] := hcs
  exact List.head_eq_of_cons_eq hcs'
end
end Go.Proofs.YtekgdljbninjiaaDoor
