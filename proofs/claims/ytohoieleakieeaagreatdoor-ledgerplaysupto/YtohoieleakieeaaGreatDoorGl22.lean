/-
  Out of LgOpenA, LrBulk.
-/
import Derived.Test.YtohoieleakieeaaGreatDoorGlLgActM
import Derived.Test.YtohoieleakieeaaGreatDoorGl12
import Derived.Test.YtohoieleakieeaaGreatDoorRows

/-! Acts that came in. -/
namespace Go.Proofs.YtohoieleakieeaaGreatDoor
open Go Go.ChangeShapes Go.WideShapes Go.ChangeAt Go.RowKit

section
variable {H : Type} {enc : TypeId × Value → H} {W : World}
theorem seven_cells {l : List Value} {a b c d e f g : Value} (hl : l.length = 7) (h0 : (l.drop 0).take 1 = [a]) (h1 : (l.drop 1).take 1 = [b]) (h2 : (l.drop 2).take 1 = [c]) (h3 : (l.drop 3).take 1 = [d]) (h4 : (l.drop 4).take 1 = [e]) (h5 : (l.drop 5).take 1 = [f]) (h6 : (l.drop 6).take 1 = [g]) : l = [a, b, c, d, e, f, g] := by
  match l, hl with
  | [x0, x1, x2, x3, x4, x5, x6], _ => simp at h0 h1 h2 h3 h4 h5 h6; rw [h0, h1, h2, h3, h4, h5, h6]
set_option maxRecDepth 100000 in
theorem open_am {fuel : Nat} {cs : List Value} {x : DataW H × List MemPlace} (hf : DataW.trod enc Tryz.prog W 0 (fun _ => true) true fuel 26 cs = some x) :
    ∃ f : AM, cs = f.cells.toList ∧ f.Ok W ∧ ((∀ m ∈ x.1.weights Tryz.prog 26, m ≤ reachBytes) → f.ranges.len ≤ 140737488355328) := by
  obtain ⟨xs, n, _, hxd, hlen, hxl, hfs⟩ := DataW.trod_struct Tryz.underlying26 hf
  have hl : Tryz.prog.cellsOf 26 = 7 := by kernel_rfl
  have cU : Tryz.prog.cellsOf 23 = 1 := by kernel_rfl
  have cK : Tryz.prog.cellsOf 5 = 1 := by kernel_rfl
  have cI : Tryz.prog.cellsOf 3 = 1 := by kernel_rfl
  have cB : Tryz.prog.cellsOf 4 = 1 := by kernel_rfl
  have cR : Tryz.prog.cellsOf 24 = 1 := by kernel_rfl
  have hx : xs.length = 7 := hxl
  have e0 : DataW.trod enc Tryz.prog W 0 (fun _ => true) true n 5 (List.take (Tryz.prog.cellsOf 5) (List.drop 0 _)) = xs[0]? := hfs 0 _ rfl
  have e1 : DataW.trod enc Tryz.prog W 0 (fun _ => true) true n 23 (List.take (Tryz.prog.cellsOf 23) (List.drop 1 _)) = xs[1]? := hfs 1 _ rfl
  have e2 : DataW.trod enc Tryz.prog W 0 (fun _ => true) true n 3 (List.take (Tryz.prog.cellsOf 3) (List.drop 2 _)) = xs[2]? := hfs 2 _ rfl
  have e3 : DataW.trod enc Tryz.prog W 0 (fun _ => true) true n 4 (List.take (Tryz.prog.cellsOf 4) (List.drop 3 _)) = xs[3]? := hfs 3 _ rfl
  have e4 : DataW.trod enc Tryz.prog W 0 (fun _ => true) true n 24 (List.take (Tryz.prog.cellsOf 24) (List.drop 4 _)) = xs[4]? := hfs 4 _ rfl
  have e5 : DataW.trod enc Tryz.prog W 0 (fun _ => true) true n 23 (List.take (Tryz.prog.cellsOf 23) (List.drop 5 _)) = xs[5]? := hfs 5 _ rfl
  have e6 : DataW.trod enc Tryz.prog W 0 (fun _ => true) true n 23 (List.take (Tryz.prog.cellsOf 23) (List.drop 6 _)) = xs[6]? := hfs 6 _ rfl
  rw [cK, List.getElem?_eq_getElem (by omega)] at e0
  rw [cU, List.getElem?_eq_getElem (by omega)] at e1 e5 e6
  rw [cI, List.getElem?_eq_getElem (by omega)] at e2
  rw [cB, List.getElem?_eq_getElem (by omega)] at e3
  rw [cR, List.getElem?_eq_getElem (by omega)] at e4
  obtain ⟨k0, h0, _, w0⟩ := DataW.trod_int Tryz.underlying5 e0
  obtain ⟨n1, h1, b1⟩ := open_u64 e1
  obtain ⟨k2, h2, _, w2⟩ := DataW.trod_int Tryz.underlying3 e2
  obtain ⟨b3, h3, _⟩ := DataW.trod_bool Tryz.underlying4 e3
  obtain ⟨sr, h4, ok4, hw4⟩ := open_rl7 e4
  obtain ⟨n5, h5, b5⟩ := open_u64 e5
  obtain ⟨n6, h6, b6⟩ := open_u64 e6
  have hb0 := bounds_u8 w0
  have hb2 : -9223372036854775808 ≤ k2 ∧ k2 ≤ 9223372036854775807 := by have := bounds_i64 w2; omega
  rw [hl] at hlen
  have hd : x.1 = .agg (xs.map (·.1)) := congrArg Prod.fst hxd
  refine ⟨⟨k0.toNat, n1, k2, b3, sr, n5, n6⟩, ?_, ⟨ok4, by show k0.toNat < 256; omega, b1, b5, b6, hb2⟩, fun hw => hw4 fun m hm => hw m ?_⟩
  · rw [seven_cells hlen h0 h1 h2 h3 h4 h5 h6]
    unfold AM.cells
    simp only
    rw [Int.toNat_of_nonneg hb0.1]
  · rw [hd]
    unfold DataW.weights
    rw [Tryz.underlying26]
    refine DataW.weights_mem_each (j := 4) (t := 24) rfl (d := (xs[4]'(by omega)).1) ?_ m hm
    rw [List.getElem?_map, List.getElem?_eq_getElem (by omega)]
    rfl
theorem weights_mem_all15 {P : Program} {e : TypeId} : ∀ {ds : List (DataW H)} {j : Nat} {d : DataW H}, ds[j]? = some d → ∀ n ∈ d.weights P e, n ∈ DataW.weightsAll P e ds
  | d0 :: ds, 0, d, hd, n, hn => by
    simp only [List.getElem?_cons_zero, Option.some.injEq] at hd
    subst hd
    simp only [DataW.weightsAll, List.mem_append]
    exact Or.inl hn
  | d0 :: ds, j + 1, d, hd, n, hn => by
    rw [List.getElem?_cons_succ] at hd
    simp only [DataW.weightsAll, List.mem_append]
    exact Or.inr (weights_mem_all15 hd n hn)
set_option maxRecDepth 100000 in
theorem open_as {fuel : Nat} {cs : List Value} {x : DataW H × List MemPlace} (hf : DataW.trod enc Tryz.prog W 0 (fun _ => true) true fuel 22 cs = some x) :
    ∃ q : AS, cs = [.slice q.a q.len q.cap] ∧ q.Ok W ∧ ((∀ m ∈ x.1.weights Tryz.prog 22, m ≤ reachBytes) → q.len ≤ 140737488355328 ∧ ∀ j, j < q.len → (ga q.l j).ranges.len ≤ 140737488355328) := by
  rcases DataW.trod_slice Tryz.underlying22 hf with ⟨hcs, hx⟩ | ⟨a, len, cap, elems, rest, n, _, hcs, hx, _, hl, hm, hlen, hel, hsp, _⟩
  · exact ⟨⟨none, 0, 0, 0, 0, []⟩, hcs, ⟨rfl, Nat.le_refl _, fun _ => ⟨rfl, rfl⟩, fun p => absurd p (Nat.lt_irrefl _), fun p => absurd p (Nat.lt_irrefl _), fun _ h => absurd h (Nat.not_lt_zero _), fun _ h => absurd h (Nat.not_lt_zero _)⟩, fun _ => ⟨Nat.zero_le _, fun _ h => absurd h (Nat.not_lt_zero _)⟩⟩
  · have hc7 : Tryz.prog.cellsOf 26 = 7 := by kernel_rfl
    have each : ∀ i, i < len → ∃ f : AM, (∀ j, j < 7 → W.cell? ((a.add (i * 7)).add j) = f.cells.toList[j]?) ∧ f.Ok W ∧ ∃ e, elems[i]? = some e ∧ ((∀ m ∈ e.1.weights Tryz.prog 26, m ≤ reachBytes) → f.ranges.len ≤ 140737488355328) := by
      intro i hi
      have h := hel i hi
      rw [hc7, List.getElem?_eq_getElem (by omega), Option.bind_eq_some_iff] at h
      obtain ⟨cs', h1, h2⟩ := h
      obtain ⟨_, h3, h4⟩ := World.cells?_some h1
      obtain ⟨f, h5, h6, h7⟩ := open_am h2
      rw [h5] at h4
      exact ⟨f, h4, h6, _, List.getElem?_eq_getElem (by omega), h7⟩
    obtain ⟨l, hll, hl2⟩ := pick_list len each
    obtain ⟨g, off, spot⟩ := a
    have hspot : 0 < len → spot = none := fun p => by
      obtain ⟨f, h1, _⟩ := each 0 p
      have := World.cell?_spot (h1 0 (by decide))
      simpa [Addr.add] using this
    have getl : ∀ j, j < len → ∃ f, ga l j = f ∧ (∀ i, i < 7 → W.cell? (((⟨g, off, spot⟩ : Addr).add (j * 7)).add i) = f.cells.toList[i]?) ∧ f.Ok W ∧ ∃ e, elems[j]? = some e ∧ ((∀ m ∈ e.1.weights Tryz.prog 26, m ≤ reachBytes) → f.ranges.len ≤ 140737488355328) := by
      intro j hj
      obtain ⟨f, h0, h1⟩ := hl2 j hj
      exact ⟨f, by unfold ga; rw [h0]; rfl, h1⟩
    refine ⟨⟨some ⟨g, off, spot⟩, len, cap, g, off, l⟩, hcs, ⟨hll, hl, (fun e => by cases e), fun p => by rw [hspot p], fun p => ?_, fun j hj => ?_, fun j hj => ?_⟩, fun hw => ?_⟩
    · obtain rfl := hspot p
      obtain ⟨f, h1, _⟩ := each 0 p
      have h2 := h1 0 (by decide)
      rcases Nat.lt_or_ge g W.heap.size with q | q
      · exact q
      · exfalso
        simp [World.cell?, Addr.add, Array.getElem?_eq_none q, AM.cells] at h2
    · have hj' : j < len := hj
      obtain rfl := hspot (by omega)
      obtain ⟨f, e, h1, _⟩ := getl j hj'
      show W.rangeAt g (off + j * 7) (ga l j).cells.toList
      rw [e]
      intro i u hu
      have hi : i < 7 := by have := (List.getElem?_eq_some_iff.1 hu).1; exact this
      have := h1 i hi
      rw [Addr.add_mid, Addr.add_mid] at this
      rw [this]
      exact hu
    · obtain ⟨f, e, _, h2, _⟩ := getl j hj
      show (ga l j).Ok W
      rw [e]
      exact h2
    · have e : x.1 = .slice (elems.map (·.1)) (rest.map (·.1)) := congrArg Prod.fst hx
      rw [e] at hw
      refine ⟨?_, fun j hj => ?_⟩
      · have h := hw _ (show ((elems.map (·.1)).length + (rest.map (·.1)).length) * Tryz.prog.bytesOf 26 ∈ _ by simp [DataW.weights, Tryz.underlying22])
        have hb : Tryz.prog.bytesOf 26 = 72 := by kernel_rfl
        rw [hb] at h
        have hr47 := reachBytes_lt
        simp only [List.length_map] at h
        show len ≤ _
        omega
      · obtain ⟨f, e2, _, _, y, hy, h3⟩ := getl j hj
        show (ga l j).ranges.len ≤ _
        rw [e2]
        refine h3 fun m hm => hw m ?_
        unfold DataW.weights
        rw [Tryz.underlying22]
        refine List.mem_cons_of_mem _ (List.mem_append_left _ (weights_mem_all15 (j := j) (d := y.1) ?_ m hm))
        rw [List.getElem?_map, hy]
        rfl
set_option maxRecDepth 100000 in
theorem open_acts {base : Nat} {v : Value} {d : DataW H} {ps : List MemPlace} (hval : Value.okWide Tryz.prog W .any base 22 v) (h0 : DataW.Trod enc Tryz.prog W 0 (fun _ => true) true 22 v d ps) :
    ∃ q : AS, v = .slice q.a q.len q.cap ∧ q.Ok W ∧ ((∀ m ∈ d.weights Tryz.prog 22, m ≤ reachBytes) → q.len ≤ 140737488355328 ∧ ∀ j, j < q.len → (ga q.l j).ranges.len ≤ 140737488355328) := by
  obtain ⟨a0, len0, cap0, rfl⟩ := okWide_slice Tryz.underlying22 hval
  obtain ⟨fuel, hf⟩ := h0
  obtain ⟨q, hcs, h⟩ := open_as hf
  refine ⟨q, ?_, h⟩
  have hcs' : [Value.slice a0 len0 cap0] = [Value.slice q.a q.len q.cap] := hcs
  exact List.head_eq_of_cons_eq hcs'
end
end Go.Proofs.YtohoieleakieeaaGreatDoor

/-! What the second form's bound gives of acts that came in. -/
namespace Go.Proofs.YtohoieleakieeaaGreatDoor
open Go Go.ChangeShapes Go.WideShapes Go.ChangeAt Go.RowKit

theorem bulk_one {H : Type} (d : DataW H) : 1 ≤ Rows.uptoBulk d := by
  cases d with
  | lit l => cases l <;> simp [Rows.uptoBulk]
  | nil => simp [Rows.uptoBulk]
  | ptr d => simp [Rows.uptoBulk]
  | slice elems spare => simp [Rows.uptoBulk]
  | agg parts => simp [Rows.uptoBulk]
  | iface t d => simp [Rows.uptoBulk]
  | map entries => simp [Rows.uptoBulk]
  | held h => simp [Rows.uptoBulk]
theorem bulk_part {H : Type} : ∀ {l : List (DataW H)} {j : Nat} {d : DataW H}, l[j]? = some d → Rows.uptoBulk d ≤ Rows.uptoBulkAll l
  | [], j, d, h => by simp at h
  | x :: l, 0, d, h => by
    simp only [List.getElem?_cons_zero, Option.some.injEq] at h
    subst h
    simp only [Rows.uptoBulkAll]
    omega
  | x :: l, j + 1, d, h => by
    rw [List.getElem?_cons_succ] at h
    have := bulk_part h
    simp only [Rows.uptoBulkAll]
    omega
theorem bulk_length {H : Type} : ∀ (l : List (DataW H)), l.length ≤ Rows.uptoBulkAll l
  | [] => Nat.zero_le _
  | x :: l => by
    have := bulk_length l
    have := bulk_one x
    simp only [Rows.uptoBulkAll, List.length_cons]
    omega
theorem bulk_slice {H : Type} (elems spare : List (DataW H)) : elems.length ≤ Rows.uptoBulk (.slice elems spare) ∧ Rows.uptoBulkAll elems ≤ Rows.uptoBulk (.slice elems spare) := by
  have h1 := bulk_length elems
  simp only [Rows.uptoBulk]
  omega
section
variable {H : Type} {enc : TypeId × Value → H} {W : World}
/-- A list of ranges is as long as its reading. -/
theorem bulk_rl {fuel : Nat} {v : Value} {len : Nat} {a : Option Addr} {cap : Nat} {x : DataW H × List MemPlace} (hf : DataW.trod enc Tryz.prog W 0 (fun _ => true) true fuel 24 [v] = some x) (hv : v = .slice a len cap) : len ≤ Rows.uptoBulk x.1 := by
  subst hv
  rcases DataW.trod_slice Tryz.underlying24 hf with ⟨hcs, _⟩ | ⟨a', len', cap', elems, rest, n, _, hcs, hx, _, hl, hm, hlen, hel, hsp, _⟩
  · injection hcs with hcs
    injection hcs with _ h2
    rw [h2]
    exact Nat.zero_le _
  · injection hcs with hcs
    injection hcs with _ h2
    have e : x.1 = .slice (elems.map (·.1)) (rest.map (·.1)) := congrArg Prod.fst hx
    have := (bulk_slice (elems.map (·.1)) (rest.map (·.1))).1
    rw [List.length_map] at this
    rw [h2, e]
    omega
set_option maxRecDepth 100000 in
theorem bulk_am {fuel : Nat} {f : AM} {x : DataW H × List MemPlace} (hf : DataW.trod enc Tryz.prog W 0 (fun _ => true) true fuel 26 f.cells.toList = some x) : f.ranges.len ≤ Rows.uptoBulk x.1 := by
  obtain ⟨xs, n, _, hxd, hlen, hxl, hfs⟩ := DataW.trod_struct Tryz.underlying26 hf
  have cR : Tryz.prog.cellsOf 24 = 1 := by kernel_rfl
  have hx : xs.length = 7 := hxl
  have e4 : DataW.trod enc Tryz.prog W 0 (fun _ => true) true n 24 (List.take (Tryz.prog.cellsOf 24) (List.drop 4 _)) = xs[4]? := hfs 4 _ rfl
  rw [cR, List.getElem?_eq_getElem (by omega)] at e4
  have h := bulk_rl (v := .slice f.ranges.a f.ranges.len f.ranges.cap) e4 rfl
  have hd : x.1 = .agg (xs.map (·.1)) := congrArg Prod.fst hxd
  rw [hd]
  have h2 : Rows.uptoBulk (xs[4]'(by omega)).1 ≤ Rows.uptoBulkAll (xs.map (·.1)) := bulk_part (j := 4) (by rw [List.getElem?_map, List.getElem?_eq_getElem (by omega)]; rfl)
  simp only [Rows.uptoBulk]
  omega
set_option maxRecDepth 100000 in
theorem bulk_as {fuel : Nat} {q : AS} {x : DataW H × List MemPlace} (hq : q.Ok W) (hf : DataW.trod enc Tryz.prog W 0 (fun _ => true) true fuel 22 [.slice q.a q.len q.cap] = some x) : q.len ≤ Rows.uptoBulk x.1 ∧ ∀ j, j < q.len → (ga q.l j).ranges.len ≤ Rows.uptoBulk x.1 := by
  rcases DataW.trod_slice Tryz.underlying22 hf with ⟨hcs, _⟩ | ⟨a, len, cap, elems, rest, n, _, hcs, hx, _, hl, hm, hlen, hel, hsp, _⟩
  · injection hcs with hcs
    injection hcs with _ h2
    rw [h2]
    exact ⟨Nat.zero_le _, fun _ h => absurd h (Nat.not_lt_zero _)⟩
  · injection hcs with hcs
    injection hcs with ha h2 h3
    have hc7 : Tryz.prog.cellsOf 26 = 7 := by kernel_rfl
    have e : x.1 = .slice (elems.map (·.1)) (rest.map (·.1)) := congrArg Prod.fst hx
    have hb := bulk_slice (elems.map (·.1)) (rest.map (·.1))
    rw [List.length_map] at hb
    rw [e]
    refine ⟨by rw [h2]; omega, fun j hj => ?_⟩
    have hj' : j < len := by rw [← h2]; exact hj
    have h := hel j hj'
    rw [hc7, List.getElem?_eq_getElem (by omega), Option.bind_eq_some_iff] at h
    obtain ⟨cs', g1, g2⟩ := h
    obtain ⟨_, g3, g4⟩ := World.cells?_some g1
    have hat := hq.at_ (by omega)
    rw [ha] at hat
    have hat : a = ⟨q.g, q.off, none⟩ := Option.some.inj hat
    have hcell := hq.cell j hj
    have hcs7 : (ga q.l j).cells.toList.length = 7 := rfl
    have hcs' : cs' = (ga q.l j).cells.toList := by
      refine List.ext_getElem? fun i => ?_
      rcases Nat.lt_or_ge i 7 with hi | hi
      · rw [← g4 i hi, hat, Addr.add_mid, Addr.add_mid]
        obtain ⟨u, hu⟩ : ∃ u, (ga q.l j).cells.toList[i]? = some u := ⟨_, List.getElem?_eq_getElem (by omega)⟩
        rw [hu]
        exact hcell i u hu
      · rw [List.getElem?_eq_none (by omega), List.getElem?_eq_none (by omega)]
    rw [hcs'] at g2
    have h8 := bulk_am g2
    have h9 : Rows.uptoBulk (elems[j]'(by omega)).1 ≤ Rows.uptoBulkAll (elems.map (·.1)) := bulk_part (j := j) (by rw [List.getElem?_map, List.getElem?_eq_getElem (by omega)]; rfl)
    omega
end
theorem bulk_bound {H : Type} {l : List (DataW H)} (hk : Rows.uptoSmall H l = true) : Rows.uptoBulkAll l ≤ 1048576 := of_decide_eq_true hk
end Go.Proofs.YtohoieleakieeaaGreatDoor
