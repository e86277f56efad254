/-
  Out of FrAheadK, FrFields, FrIsSet, FrMayP, FrMay.
-/
import Derived.Test.YtnngeojhlfkdiaaDoorGf5
import Derived.Test.YtnngeojhlfkdiaaDoorGf2

/-! frame.aheadOfData, kind by kind (written by mkahead.py). -/
namespace Go.Proofs.YtnngeojhlfkdiaaDoor
open Go Go.RowKit

def vu (L : List Nat) : List Value := L.map fun n : Nat => Value.int .u64 (n : Int)
theorem nl_lit (W : World) (L : List Nat) : NL.Ok (W.alloc (.cells (vu L).toArray 36)) ⟨some ⟨W.heap.size, 0, none⟩, L.length, L.length, W.heap.size, 0, L⟩ := by
  have r : Row (W.alloc (.cells (vu L).toArray 36)) W.heap.size 36 (vu L).toArray := Row.new _ _ _
  refine ⟨rfl, Nat.le_refl _, fun _ => rfl, fun _ => r.lt, fun j hj => ?_⟩
  have hj' : j < L.length := hj
  have h1 : (vu L).toArray[j]? = some (.int .u64 (gu L j : Int)) := by
    unfold vu gu
    rw [List.getElem?_toArray, List.getElem?_map, List.getElem?_eq_getElem hj']
    rfl
  show (W.alloc (.cells (vu L).toArray 36)).cell? ⟨W.heap.size, 0 + j, none⟩ = _
  rw [Nat.zero_add]
  rw [r.cell j, h1]
theorem gu_le (L : List Nat) (M : Nat) (h : ∀ x ∈ L, x ≤ M) (j : Nat) : gu L j ≤ M := by
  unfold gu
  cases hq : L[j]? with
  | none => exact Nat.zero_le _
  | some x => exact h x (List.mem_of_getElem? hq)

set_option maxRecDepth 20000 in
set_option maxHeartbeats 1000000 in
theorem ahead_2 (f : FrM) (w : World) (hk : f.kind = 2) (hn : Fr.numsF f.fr) (hdl : f.data.b.length = f.data.len) (hL : Lens w) :
    Calls Tryd.prog 19 #[.agg f.cells] w fun e w' => ∃ v, e = .returned v ∧ RowK w.heap.size (numsL [1]) w' v ∧ Below w.heap.size w w' := by
  obtain ⟨n1, n2, n3, n4, n5⟩ := hn
  have n5' : f.offset + f.data.len ≤ 4611686018427387903 := by rw [← hdl]; exact n5
  obtain ⟨k, st, of, li, co, fi, da, ra⟩ := f
  simp only at hk n5'
  subst hk
  have hwl : IntKind.u64.wrap (da.len : Int) = (da.len : Int) := by rw [IntKind.wrap_u64]; omega
  have m1 : st ≤ 4611686018427387903 := n1
  have m2 : of ≤ 4611686018427387903 := n2
  have m3 : li ≤ 4611686018427387903 := n3
  have m4 : co ≤ 4611686018427387903 := n4
  have HLe := veil (show ∀ x ∈ [1], x ≤ 4611686018427387903 by
    intro x hx
    simp only [List.mem_cons, List.not_mem_nil, or_false] at hx
    omega)
  have r0 : Row (w.alloc (.cells (FrM.mk 2 st of li co fi da ra).cells 39)) w.heap.size 39 (FrM.mk 2 st of li co fi da ra).cells := Row.new _ _ _
  have b0 : Below w.heap.size w (w.alloc (.cells (FrM.mk 2 st of li co fi da ra).cells 39)) := (Below.refl _ w).alloc (Nat.le_refl _) _
  have b1 : Below w.heap.size w ((w.alloc (.cells (FrM.mk 2 st of li co fi da ra).cells 39)).alloc (.cells (vu [1]).toArray 36)) := b0.alloc (by simp) _
  have NLO := veil (nl_lit (w.alloc (.cells (FrM.mk 2 st of li co fi da ra).cells 39)) [1])
  obtain ⟨c0, c1, c2, c3, c4, c5, c6, c7⟩ := fr_cells r0
  simp only at c0 c1 c2 c3 c4 c5 c6 c7
  have HB1 := veil b1
  have HLn := veil hL
  clear r0 b0 b1 n1 n2 n3 n4 n5 n5' m1 m2 m3 m4 hL hdl
  go_enter Tryd.func19, Tryd.ntmps19
  go_wp2_with fail
  have hsz : (w.alloc (.cells (FrM.mk 2 st of li co fi da ra).cells 39)).heap.size = w.heap.size + 1 := by simp
  have hq := fr_nums _ _ NLO.out (show 1 ≤ 1000 by decide) (fun j _ => gu_le _ _ HLe.out j) (HLn.out.step HB1.out)
  rw [hsz] at hq
  refine hq.mono ?_
  rintro e1 w1 ⟨v, rfl, hrow, hb⟩
  have HRow := veil (own_low hrow HB1.out.size)
  have HB2 := veil (HB1.out.trans (hb.mono HB1.out.size))
  clear hrow hb hq
  go_wp2_with fail
  go_ret
  exact ⟨v, rfl, HRow.out, HB2.out⟩

set_option maxRecDepth 20000 in
set_option maxHeartbeats 1000000 in
theorem ahead_4 (f : FrM) (w : World) (hk : f.kind = 4) (hn : Fr.numsF f.fr) (hdl : f.data.b.length = f.data.len) (hL : Lens w) :
    Calls Tryd.prog 19 #[.agg f.cells] w fun e w' => ∃ v, e = .returned v ∧ RowK w.heap.size (numsL [4, f.stream, f.code, f.limit]) w' v ∧ Below w.heap.size w w' := by
  obtain ⟨n1, n2, n3, n4, n5⟩ := hn
  have n5' : f.offset + f.data.len ≤ 4611686018427387903 := by rw [← hdl]; exact n5
  obtain ⟨k, st, of, li, co, fi, da, ra⟩ := f
  simp only at hk n5'
  subst hk
  have hwl : IntKind.u64.wrap (da.len : Int) = (da.len : Int) := by rw [IntKind.wrap_u64]; omega
  have m1 : st ≤ 4611686018427387903 := n1
  have m2 : of ≤ 4611686018427387903 := n2
  have m3 : li ≤ 4611686018427387903 := n3
  have m4 : co ≤ 4611686018427387903 := n4
  have HLe := veil (show ∀ x ∈ [4, st, co, li], x ≤ 4611686018427387903 by
    intro x hx
    simp only [List.mem_cons, List.not_mem_nil, or_false] at hx
    omega)
  have r0 : Row (w.alloc (.cells (FrM.mk 4 st of li co fi da ra).cells 39)) w.heap.size 39 (FrM.mk 4 st of li co fi da ra).cells := Row.new _ _ _
  have b0 : Below w.heap.size w (w.alloc (.cells (FrM.mk 4 st of li co fi da ra).cells 39)) := (Below.refl _ w).alloc (Nat.le_refl _) _
  have b1 : Below w.heap.size w ((w.alloc (.cells (FrM.mk 4 st of li co fi da ra).cells 39)).alloc (.cells (vu [4, st, co, li]).toArray 36)) := b0.alloc (by simp) _
  have NLO := veil (nl_lit (w.alloc (.cells (FrM.mk 4 st of li co fi da ra).cells 39)) [4, st, co, li])
  obtain ⟨c0, c1, c2, c3, c4, c5, c6, c7⟩ := fr_cells r0
  simp only at c0 c1 c2 c3 c4 c5 c6 c7
  have HB1 := veil b1
  have HLn := veil hL
  clear r0 b0 b1 n1 n2 n3 n4 n5 n5' m1 m2 m3 m4 hL hdl
  go_enter Tryd.func19, Tryd.ntmps19
  go_wp2_with fail
  have hsz : (w.alloc (.cells (FrM.mk 4 st of li co fi da ra).cells 39)).heap.size = w.heap.size + 1 := by simp
  have hq := fr_nums _ _ NLO.out (show 4 ≤ 1000 by decide) (fun j _ => gu_le _ _ HLe.out j) (HLn.out.step HB1.out)
  rw [hsz] at hq
  refine hq.mono ?_
  rintro e1 w1 ⟨v, rfl, hrow, hb⟩
  have HRow := veil (own_low hrow HB1.out.size)
  have HB2 := veil (HB1.out.trans (hb.mono HB1.out.size))
  clear hrow hb hq
  go_wp2_with fail
  go_ret
  exact ⟨v, rfl, HRow.out, HB2.out⟩

set_option maxRecDepth 20000 in
set_option maxHeartbeats 1000000 in
theorem ahead_5 (f : FrM) (w : World) (hk : f.kind = 5) (hn : Fr.numsF f.fr) (hdl : f.data.b.length = f.data.len) (hL : Lens w) :
    Calls Tryd.prog 19 #[.agg f.cells] w fun e w' => ∃ v, e = .returned v ∧ RowK w.heap.size (numsL [5, f.stream, f.code]) w' v ∧ Below w.heap.size w w' := by
  obtain ⟨n1, n2, n3, n4, n5⟩ := hn
  have n5' : f.offset + f.data.len ≤ 4611686018427387903 := by rw [← hdl]; exact n5
  obtain ⟨k, st, of, li, co, fi, da, ra⟩ := f
  simp only at hk n5'
  subst hk
  have hwl : IntKind.u64.wrap (da.len : Int) = (da.len : Int) := by rw [IntKind.wrap_u64]; omega
  have m1 : st ≤ 4611686018427387903 := n1
  have m2 : of ≤ 4611686018427387903 := n2
  have m3 : li ≤ 4611686018427387903 := n3
  have m4 : co ≤ 4611686018427387903 := n4
  have HLe := veil (show ∀ x ∈ [5, st, co], x ≤ 4611686018427387903 by
    intro x hx
    simp only [List.mem_cons, List.not_mem_nil, or_false] at hx
    omega)
  have r0 : Row (w.alloc (.cells (FrM.mk 5 st of li co fi da ra).cells 39)) w.heap.size 39 (FrM.mk 5 st of li co fi da ra).cells := Row.new _ _ _
  have b0 : Below w.heap.size w (w.alloc (.cells (FrM.mk 5 st of li co fi da ra).cells 39)) := (Below.refl _ w).alloc (Nat.le_refl _) _
  have b1 : Below w.heap.size w ((w.alloc (.cells (FrM.mk 5 st of li co fi da ra).cells 39)).alloc (.cells (vu [5, st, co]).toArray 36)) := b0.alloc (by simp) _
  have NLO := veil (nl_lit (w.alloc (.cells (FrM.mk 5 st of li co fi da ra).cells 39)) [5, st, co])
  obtain ⟨c0, c1, c2, c3, c4, c5, c6, c7⟩ := fr_cells r0
  simp only at c0 c1 c2 c3 c4 c5 c6 c7
  have HB1 := veil b1
  have HLn := veil hL
  clear r0 b0 b1 n1 n2 n3 n4 n5 n5' m1 m2 m3 m4 hL hdl
  go_enter Tryd.func19, Tryd.ntmps19
  go_wp2_with fail
  have hsz : (w.alloc (.cells (FrM.mk 5 st of li co fi da ra).cells 39)).heap.size = w.heap.size + 1 := by simp
  have hq := fr_nums _ _ NLO.out (show 3 ≤ 1000 by decide) (fun j _ => gu_le _ _ HLe.out j) (HLn.out.step HB1.out)
  rw [hsz] at hq
  refine hq.mono ?_
  rintro e1 w1 ⟨v, rfl, hrow, hb⟩
  have HRow := veil (own_low hrow HB1.out.size)
  have HB2 := veil (HB1.out.trans (hb.mono HB1.out.size))
  clear hrow hb hq
  go_wp2_with fail
  go_ret
  exact ⟨v, rfl, HRow.out, HB2.out⟩

set_option maxRecDepth 20000 in
set_option maxHeartbeats 1000000 in
theorem ahead_6 (f : FrM) (w : World) (hk : f.kind = 6) (hn : Fr.numsF f.fr) (hdl : f.data.b.length = f.data.len) (hL : Lens w) :
    Calls Tryd.prog 19 #[.agg f.cells] w fun e w' => ∃ v, e = .returned v ∧ RowK w.heap.size (numsL [6, f.offset, f.data.len]) w' v ∧ Below w.heap.size w w' := by
  obtain ⟨n1, n2, n3, n4, n5⟩ := hn
  have n5' : f.offset + f.data.len ≤ 4611686018427387903 := by rw [← hdl]; exact n5
  obtain ⟨k, st, of, li, co, fi, da, ra⟩ := f
  simp only at hk n5'
  subst hk
  have hwl : IntKind.u64.wrap (da.len : Int) = (da.len : Int) := by rw [IntKind.wrap_u64]; omega
  have m1 : st ≤ 4611686018427387903 := n1
  have m2 : of ≤ 4611686018427387903 := n2
  have m3 : li ≤ 4611686018427387903 := n3
  have m4 : co ≤ 4611686018427387903 := n4
  have HLe := veil (show ∀ x ∈ [6, of, da.len], x ≤ 4611686018427387903 by
    intro x hx
    simp only [List.mem_cons, List.not_mem_nil, or_false] at hx
    omega)
  have r0 : Row (w.alloc (.cells (FrM.mk 6 st of li co fi da ra).cells 39)) w.heap.size 39 (FrM.mk 6 st of li co fi da ra).cells := Row.new _ _ _
  have b0 : Below w.heap.size w (w.alloc (.cells (FrM.mk 6 st of li co fi da ra).cells 39)) := (Below.refl _ w).alloc (Nat.le_refl _) _
  have b1 : Below w.heap.size w ((w.alloc (.cells (FrM.mk 6 st of li co fi da ra).cells 39)).alloc (.cells (vu [6, of, da.len]).toArray 36)) := b0.alloc (by simp) _
  have NLO := veil (nl_lit (w.alloc (.cells (FrM.mk 6 st of li co fi da ra).cells 39)) [6, of, da.len])
  obtain ⟨c0, c1, c2, c3, c4, c5, c6, c7⟩ := fr_cells r0
  simp only at c0 c1 c2 c3 c4 c5 c6 c7
  have HB1 := veil b1
  have HLn := veil hL
  clear r0 b0 b1 n1 n2 n3 n4 n5 n5' m1 m2 m3 m4 hL hdl
  go_enter Tryd.func19, Tryd.ntmps19
  go_wp2_with fail
  have hsz : (w.alloc (.cells (FrM.mk 6 st of li co fi da ra).cells 39)).heap.size = w.heap.size + 1 := by simp
  have hq := fr_nums _ _ NLO.out (show 3 ≤ 1000 by decide) (fun j _ => gu_le _ _ HLe.out j) (HLn.out.step HB1.out)
  rw [hsz] at hq
  refine hq.mono ?_
  rintro e1 w1 ⟨v, rfl, hrow, hb⟩
  have HRow := veil (own_low hrow HB1.out.size)
  have HB2 := veil (HB1.out.trans (hb.mono HB1.out.size))
  clear hrow hb hq
  go_wp2_with fail
  go_ret
  exact ⟨v, rfl, HRow.out, HB2.out⟩

set_option maxRecDepth 20000 in
set_option maxHeartbeats 1000000 in
theorem ahead_8 (f : FrM) (w : World) (hk : f.kind = 8) (hn : Fr.numsF f.fr) (hdl : f.data.b.length = f.data.len) (hL : Lens w) :
    Calls Tryd.prog 19 #[.agg f.cells] w fun e w' => ∃ v, e = .returned v ∧ RowK w.heap.size (numsL [16, f.limit]) w' v ∧ Below w.heap.size w w' := by
  obtain ⟨n1, n2, n3, n4, n5⟩ := hn
  have n5' : f.offset + f.data.len ≤ 4611686018427387903 := by rw [← hdl]; exact n5
  obtain ⟨k, st, of, li, co, fi, da, ra⟩ := f
  simp only at hk n5'
  subst hk
  have hwl : IntKind.u64.wrap (da.len : Int) = (da.len : Int) := by rw [IntKind.wrap_u64]; omega
  have m1 : st ≤ 4611686018427387903 := n1
  have m2 : of ≤ 4611686018427387903 := n2
  have m3 : li ≤ 4611686018427387903 := n3
  have m4 : co ≤ 4611686018427387903 := n4
  have HLe := veil (show ∀ x ∈ [16, li], x ≤ 4611686018427387903 by
    intro x hx
    simp only [List.mem_cons, List.not_mem_nil, or_false] at hx
    omega)
  have r0 : Row (w.alloc (.cells (FrM.mk 8 st of li co fi da ra).cells 39)) w.heap.size 39 (FrM.mk 8 st of li co fi da ra).cells := Row.new _ _ _
  have b0 : Below w.heap.size w (w.alloc (.cells (FrM.mk 8 st of li co fi da ra).cells 39)) := (Below.refl _ w).alloc (Nat.le_refl _) _
  have b1 : Below w.heap.size w ((w.alloc (.cells (FrM.mk 8 st of li co fi da ra).cells 39)).alloc (.cells (vu [16, li]).toArray 36)) := b0.alloc (by simp) _
  have NLO := veil (nl_lit (w.alloc (.cells (FrM.mk 8 st of li co fi da ra).cells 39)) [16, li])
  obtain ⟨c0, c1, c2, c3, c4, c5, c6, c7⟩ := fr_cells r0
  simp only at c0 c1 c2 c3 c4 c5 c6 c7
  have HB1 := veil b1
  have HLn := veil hL
  clear r0 b0 b1 n1 n2 n3 n4 n5 n5' m1 m2 m3 m4 hL hdl
  go_enter Tryd.func19, Tryd.ntmps19
  go_wp2_with fail
  have hsz : (w.alloc (.cells (FrM.mk 8 st of li co fi da ra).cells 39)).heap.size = w.heap.size + 1 := by simp
  have hq := fr_nums _ _ NLO.out (show 2 ≤ 1000 by decide) (fun j _ => gu_le _ _ HLe.out j) (HLn.out.step HB1.out)
  rw [hsz] at hq
  refine hq.mono ?_
  rintro e1 w1 ⟨v, rfl, hrow, hb⟩
  have HRow := veil (own_low hrow HB1.out.size)
  have HB2 := veil (HB1.out.trans (hb.mono HB1.out.size))
  clear hrow hb hq
  go_wp2_with fail
  go_ret
  exact ⟨v, rfl, HRow.out, HB2.out⟩

set_option maxRecDepth 20000 in
set_option maxHeartbeats 1000000 in
theorem ahead_9 (f : FrM) (w : World) (hk : f.kind = 9) (hn : Fr.numsF f.fr) (hdl : f.data.b.length = f.data.len) (hL : Lens w) :
    Calls Tryd.prog 19 #[.agg f.cells] w fun e w' => ∃ v, e = .returned v ∧ RowK w.heap.size (numsL [17, f.stream, f.limit]) w' v ∧ Below w.heap.size w w' := by
  obtain ⟨n1, n2, n3, n4, n5⟩ := hn
  have n5' : f.offset + f.data.len ≤ 4611686018427387903 := by rw [← hdl]; exact n5
  obtain ⟨k, st, of, li, co, fi, da, ra⟩ := f
  simp only at hk n5'
  subst hk
  have hwl : IntKind.u64.wrap (da.len : Int) = (da.len : Int) := by rw [IntKind.wrap_u64]; omega
  have m1 : st ≤ 4611686018427387903 := n1
  have m2 : of ≤ 4611686018427387903 := n2
  have m3 : li ≤ 4611686018427387903 := n3
  have m4 : co ≤ 4611686018427387903 := n4
  have HLe := veil (show ∀ x ∈ [17, st, li], x ≤ 4611686018427387903 by
    intro x hx
    simp only [List.mem_cons, List.not_mem_nil, or_false] at hx
    omega)
  have r0 : Row (w.alloc (.cells (FrM.mk 9 st of li co fi da ra).cells 39)) w.heap.size 39 (FrM.mk 9 st of li co fi da ra).cells := Row.new _ _ _
  have b0 : Below w.heap.size w (w.alloc (.cells (FrM.mk 9 st of li co fi da ra).cells 39)) := (Below.refl _ w).alloc (Nat.le_refl _) _
  have b1 : Below w.heap.size w ((w.alloc (.cells (FrM.mk 9 st of li co fi da ra).cells 39)).alloc (.cells (vu [17, st, li]).toArray 36)) := b0.alloc (by simp) _
  have NLO := veil (nl_lit (w.alloc (.cells (FrM.mk 9 st of li co fi da ra).cells 39)) [17, st, li])
  obtain ⟨c0, c1, c2, c3, c4, c5, c6, c7⟩ := fr_cells r0
  simp only at c0 c1 c2 c3 c4 c5 c6 c7
  have HB1 := veil b1
  have HLn := veil hL
  clear r0 b0 b1 n1 n2 n3 n4 n5 n5' m1 m2 m3 m4 hL hdl
  go_enter Tryd.func19, Tryd.ntmps19
  go_wp2_with fail
  have hsz : (w.alloc (.cells (FrM.mk 9 st of li co fi da ra).cells 39)).heap.size = w.heap.size + 1 := by simp
  have hq := fr_nums _ _ NLO.out (show 3 ≤ 1000 by decide) (fun j _ => gu_le _ _ HLe.out j) (HLn.out.step HB1.out)
  rw [hsz] at hq
  refine hq.mono ?_
  rintro e1 w1 ⟨v, rfl, hrow, hb⟩
  have HRow := veil (own_low hrow HB1.out.size)
  have HB2 := veil (HB1.out.trans (hb.mono HB1.out.size))
  clear hrow hb hq
  go_wp2_with fail
  go_ret
  exact ⟨v, rfl, HRow.out, HB2.out⟩

set_option maxRecDepth 20000 in
set_option maxHeartbeats 1000000 in
theorem ahead_11 (f : FrM) (w : World) (hk : f.kind = 11) (hn : Fr.numsF f.fr) (hdl : f.data.b.length = f.data.len) (hL : Lens w) :
    Calls Tryd.prog 19 #[.agg f.cells] w fun e w' => ∃ v, e = .returned v ∧ RowK w.heap.size (numsL [20, f.limit]) w' v ∧ Below w.heap.size w w' := by
  obtain ⟨n1, n2, n3, n4, n5⟩ := hn
  have n5' : f.offset + f.data.len ≤ 4611686018427387903 := by rw [← hdl]; exact n5
  obtain ⟨k, st, of, li, co, fi, da, ra⟩ := f
  simp only at hk n5'
  subst hk
  have hwl : IntKind.u64.wrap (da.len : Int) = (da.len : Int) := by rw [IntKind.wrap_u64]; omega
  have m1 : st ≤ 4611686018427387903 := n1
  have m2 : of ≤ 4611686018427387903 := n2
  have m3 : li ≤ 4611686018427387903 := n3
  have m4 : co ≤ 4611686018427387903 := n4
  have HLe := veil (show ∀ x ∈ [20, li], x ≤ 4611686018427387903 by
    intro x hx
    simp only [List.mem_cons, List.not_mem_nil, or_false] at hx
    omega)
  have r0 : Row (w.alloc (.cells (FrM.mk 11 st of li co fi da ra).cells 39)) w.heap.size 39 (FrM.mk 11 st of li co fi da ra).cells := Row.new _ _ _
  have b0 : Below w.heap.size w (w.alloc (.cells (FrM.mk 11 st of li co fi da ra).cells 39)) := (Below.refl _ w).alloc (Nat.le_refl _) _
  have b1 : Below w.heap.size w ((w.alloc (.cells (FrM.mk 11 st of li co fi da ra).cells 39)).alloc (.cells (vu [20, li]).toArray 36)) := b0.alloc (by simp) _
  have NLO := veil (nl_lit (w.alloc (.cells (FrM.mk 11 st of li co fi da ra).cells 39)) [20, li])
  obtain ⟨c0, c1, c2, c3, c4, c5, c6, c7⟩ := fr_cells r0
  simp only at c0 c1 c2 c3 c4 c5 c6 c7
  have HB1 := veil b1
  have HLn := veil hL
  clear r0 b0 b1 n1 n2 n3 n4 n5 n5' m1 m2 m3 m4 hL hdl
  go_enter Tryd.func19, Tryd.ntmps19
  go_wp2_with fail
  have hsz : (w.alloc (.cells (FrM.mk 11 st of li co fi da ra).cells 39)).heap.size = w.heap.size + 1 := by simp
  have hq := fr_nums _ _ NLO.out (show 2 ≤ 1000 by decide) (fun j _ => gu_le _ _ HLe.out j) (HLn.out.step HB1.out)
  rw [hsz] at hq
  refine hq.mono ?_
  rintro e1 w1 ⟨v, rfl, hrow, hb⟩
  have HRow := veil (own_low hrow HB1.out.size)
  have HB2 := veil (HB1.out.trans (hb.mono HB1.out.size))
  clear hrow hb hq
  go_wp2_with fail
  go_ret
  exact ⟨v, rfl, HRow.out, HB2.out⟩

set_option maxRecDepth 20000 in
set_option maxHeartbeats 1000000 in
theorem ahead_12 (f : FrM) (w : World) (hk : f.kind = 12) (hn : Fr.numsF f.fr) (hdl : f.data.b.length = f.data.len) (hL : Lens w) :
    Calls Tryd.prog 19 #[.agg f.cells] w fun e w' => ∃ v, e = .returned v ∧ RowK w.heap.size (numsL [21, f.stream, f.limit]) w' v ∧ Below w.heap.size w w' := by
  obtain ⟨n1, n2, n3, n4, n5⟩ := hn
  have n5' : f.offset + f.data.len ≤ 4611686018427387903 := by rw [← hdl]; exact n5
  obtain ⟨k, st, of, li, co, fi, da, ra⟩ := f
  simp only at hk n5'
  subst hk
  have hwl : IntKind.u64.wrap (da.len : Int) = (da.len : Int) := by rw [IntKind.wrap_u64]; omega
  have m1 : st ≤ 4611686018427387903 := n1
  have m2 : of ≤ 4611686018427387903 := n2
  have m3 : li ≤ 4611686018427387903 := n3
  have m4 : co ≤ 4611686018427387903 := n4
  have HLe := veil (show ∀ x ∈ [21, st, li], x ≤ 4611686018427387903 by
    intro x hx
    simp only [List.mem_cons, List.not_mem_nil, or_false] at hx
    omega)
  have r0 : Row (w.alloc (.cells (FrM.mk 12 st of li co fi da ra).cells 39)) w.heap.size 39 (FrM.mk 12 st of li co fi da ra).cells := Row.new _ _ _
  have b0 : Below w.heap.size w (w.alloc (.cells (FrM.mk 12 st of li co fi da ra).cells 39)) := (Below.refl _ w).alloc (Nat.le_refl _) _
  have b1 : Below w.heap.size w ((w.alloc (.cells (FrM.mk 12 st of li co fi da ra).cells 39)).alloc (.cells (vu [21, st, li]).toArray 36)) := b0.alloc (by simp) _
  have NLO := veil (nl_lit (w.alloc (.cells (FrM.mk 12 st of li co fi da ra).cells 39)) [21, st, li])
  obtain ⟨c0, c1, c2, c3, c4, c5, c6, c7⟩ := fr_cells r0
  simp only at c0 c1 c2 c3 c4 c5 c6 c7
  have HB1 := veil b1
  have HLn := veil hL
  clear r0 b0 b1 n1 n2 n3 n4 n5 n5' m1 m2 m3 m4 hL hdl
  go_enter Tryd.func19, Tryd.ntmps19
  go_wp2_with fail
  have hsz : (w.alloc (.cells (FrM.mk 12 st of li co fi da ra).cells 39)).heap.size = w.heap.size + 1 := by simp
  have hq := fr_nums _ _ NLO.out (show 3 ≤ 1000 by decide) (fun j _ => gu_le _ _ HLe.out j) (HLn.out.step HB1.out)
  rw [hsz] at hq
  refine hq.mono ?_
  rintro e1 w1 ⟨v, rfl, hrow, hb⟩
  have HRow := veil (own_low hrow HB1.out.size)
  have HB2 := veil (HB1.out.trans (hb.mono HB1.out.size))
  clear hrow hb hq
  go_wp2_with fail
  go_ret
  exact ⟨v, rfl, HRow.out, HB2.out⟩

set_option maxRecDepth 20000 in
set_option maxHeartbeats 1000000 in
theorem ahead_13t (f : FrM) (w : World) (hk : f.kind = 13) (hfi : f.fin = true) (hn : Fr.numsF f.fr) (hdl : f.data.b.length = f.data.len) (hL : Lens w) :
    Calls Tryd.prog 19 #[.agg f.cells] w fun e w' => ∃ v, e = .returned v ∧ RowK w.heap.size (numsL [29, f.code, f.data.len]) w' v ∧ Below w.heap.size w w' := by
  obtain ⟨n1, n2, n3, n4, n5⟩ := hn
  have n5' : f.offset + f.data.len ≤ 4611686018427387903 := by rw [← hdl]; exact n5
  obtain ⟨k, st, of, li, co, fi, da, ra⟩ := f
  simp only at hk hfi n5'
  subst hk hfi
  have hwl : IntKind.u64.wrap (da.len : Int) = (da.len : Int) := by rw [IntKind.wrap_u64]; omega
  have m1 : st ≤ 4611686018427387903 := n1
  have m2 : of ≤ 4611686018427387903 := n2
  have m3 : li ≤ 4611686018427387903 := n3
  have m4 : co ≤ 4611686018427387903 := n4
  have HLe := veil (show ∀ x ∈ [29, co, da.len], x ≤ 4611686018427387903 by
    intro x hx
    simp only [List.mem_cons, List.not_mem_nil, or_false] at hx
    omega)
  have r0 : Row (w.alloc (.cells (FrM.mk 13 st of li co true da ra).cells 39)) w.heap.size 39 (FrM.mk 13 st of li co true da ra).cells := Row.new _ _ _
  have b0 : Below w.heap.size w (w.alloc (.cells (FrM.mk 13 st of li co true da ra).cells 39)) := (Below.refl _ w).alloc (Nat.le_refl _) _
  have b1 : Below w.heap.size w ((w.alloc (.cells (FrM.mk 13 st of li co true da ra).cells 39)).alloc (.cells (vu [29, co, da.len]).toArray 36)) := b0.alloc (by simp) _
  have NLO := veil (nl_lit (w.alloc (.cells (FrM.mk 13 st of li co true da ra).cells 39)) [29, co, da.len])
  obtain ⟨c0, c1, c2, c3, c4, c5, c6, c7⟩ := fr_cells r0
  simp only at c0 c1 c2 c3 c4 c5 c6 c7
  have HB1 := veil b1
  have HLn := veil hL
  clear r0 b0 b1 n1 n2 n3 n4 n5 n5' m1 m2 m3 m4 hL hdl
  go_enter Tryd.func19, Tryd.ntmps19
  go_wp2_with fail
  have hsz : (w.alloc (.cells (FrM.mk 13 st of li co true da ra).cells 39)).heap.size = w.heap.size + 1 := by simp
  have hq := fr_nums _ _ NLO.out (show 3 ≤ 1000 by decide) (fun j _ => gu_le _ _ HLe.out j) (HLn.out.step HB1.out)
  rw [hsz] at hq
  refine hq.mono ?_
  rintro e1 w1 ⟨v, rfl, hrow, hb⟩
  have HRow := veil (own_low hrow HB1.out.size)
  have HB2 := veil (HB1.out.trans (hb.mono HB1.out.size))
  clear hrow hb hq
  go_wp2_with fail
  go_ret
  exact ⟨v, rfl, HRow.out, HB2.out⟩

set_option maxRecDepth 20000 in
set_option maxHeartbeats 1000000 in
theorem ahead_13f (f : FrM) (w : World) (hk : f.kind = 13) (hfi : f.fin = false) (hn : Fr.numsF f.fr) (hdl : f.data.b.length = f.data.len) (hL : Lens w) :
    Calls Tryd.prog 19 #[.agg f.cells] w fun e w' => ∃ v, e = .returned v ∧ RowK w.heap.size (numsL [28, f.code, 0, f.data.len]) w' v ∧ Below w.heap.size w w' := by
  obtain ⟨n1, n2, n3, n4, n5⟩ := hn
  have n5' : f.offset + f.data.len ≤ 4611686018427387903 := by rw [← hdl]; exact n5
  obtain ⟨k, st, of, li, co, fi, da, ra⟩ := f
  simp only at hk hfi n5'
  subst hk hfi
  have hwl : IntKind.u64.wrap (da.len : Int) = (da.len : Int) := by rw [IntKind.wrap_u64]; omega
  have m1 : st ≤ 4611686018427387903 := n1
  have m2 : of ≤ 4611686018427387903 := n2
  have m3 : li ≤ 4611686018427387903 := n3
  have m4 : co ≤ 4611686018427387903 := n4
  have HLe := veil (show ∀ x ∈ [28, co, 0, da.len], x ≤ 4611686018427387903 by
    intro x hx
    simp only [List.mem_cons, List.not_mem_nil, or_false] at hx
    omega)
  have r0 : Row (w.alloc (.cells (FrM.mk 13 st of li co false da ra).cells 39)) w.heap.size 39 (FrM.mk 13 st of li co false da ra).cells := Row.new _ _ _
  have b0 : Below w.heap.size w (w.alloc (.cells (FrM.mk 13 st of li co false da ra).cells 39)) := (Below.refl _ w).alloc (Nat.le_refl _) _
  have b1 : Below w.heap.size w ((w.alloc (.cells (FrM.mk 13 st of li co false da ra).cells 39)).alloc (.cells (vu [28, co, 0, da.len]).toArray 36)) := b0.alloc (by simp) _
  have NLO := veil (nl_lit (w.alloc (.cells (FrM.mk 13 st of li co false da ra).cells 39)) [28, co, 0, da.len])
  obtain ⟨c0, c1, c2, c3, c4, c5, c6, c7⟩ := fr_cells r0
  simp only at c0 c1 c2 c3 c4 c5 c6 c7
  have HB1 := veil b1
  have HLn := veil hL
  clear r0 b0 b1 n1 n2 n3 n4 n5 n5' m1 m2 m3 m4 hL hdl
  go_enter Tryd.func19, Tryd.ntmps19
  go_wp2_with fail
  have hsz : (w.alloc (.cells (FrM.mk 13 st of li co false da ra).cells 39)).heap.size = w.heap.size + 1 := by simp
  have hq := fr_nums _ _ NLO.out (show 4 ≤ 1000 by decide) (fun j _ => gu_le _ _ HLe.out j) (HLn.out.step HB1.out)
  rw [hsz] at hq
  refine hq.mono ?_
  rintro e1 w1 ⟨v, rfl, hrow, hb⟩
  have HRow := veil (own_low hrow HB1.out.size)
  have HB2 := veil (HB1.out.trans (hb.mono HB1.out.size))
  clear hrow hb hq
  go_wp2_with fail
  go_ret
  exact ⟨v, rfl, HRow.out, HB2.out⟩

set_option maxRecDepth 20000 in
set_option maxHeartbeats 1000000 in
theorem ahead_14 (f : FrM) (w : World) (hk : f.kind = 14) (hn : Fr.numsF f.fr) (hdl : f.data.b.length = f.data.len) (hL : Lens w) :
    Calls Tryd.prog 19 #[.agg f.cells] w fun e w' => ∃ v, e = .returned v ∧ RowK w.heap.size (numsL [30]) w' v ∧ Below w.heap.size w w' := by
  obtain ⟨n1, n2, n3, n4, n5⟩ := hn
  have n5' : f.offset + f.data.len ≤ 4611686018427387903 := by rw [← hdl]; exact n5
  obtain ⟨k, st, of, li, co, fi, da, ra⟩ := f
  simp only at hk n5'
  subst hk
  have hwl : IntKind.u64.wrap (da.len : Int) = (da.len : Int) := by rw [IntKind.wrap_u64]; omega
  have m1 : st ≤ 4611686018427387903 := n1
  have m2 : of ≤ 4611686018427387903 := n2
  have m3 : li ≤ 4611686018427387903 := n3
  have m4 : co ≤ 4611686018427387903 := n4
  have HLe := veil (show ∀ x ∈ [30], x ≤ 4611686018427387903 by
    intro x hx
    simp only [List.mem_cons, List.not_mem_nil, or_false] at hx
    omega)
  have r0 : Row (w.alloc (.cells (FrM.mk 14 st of li co fi da ra).cells 39)) w.heap.size 39 (FrM.mk 14 st of li co fi da ra).cells := Row.new _ _ _
  have b0 : Below w.heap.size w (w.alloc (.cells (FrM.mk 14 st of li co fi da ra).cells 39)) := (Below.refl _ w).alloc (Nat.le_refl _) _
  have b1 : Below w.heap.size w ((w.alloc (.cells (FrM.mk 14 st of li co fi da ra).cells 39)).alloc (.cells (vu [30]).toArray 36)) := b0.alloc (by simp) _
  have NLO := veil (nl_lit (w.alloc (.cells (FrM.mk 14 st of li co fi da ra).cells 39)) [30])
  obtain ⟨c0, c1, c2, c3, c4, c5, c6, c7⟩ := fr_cells r0
  simp only at c0 c1 c2 c3 c4 c5 c6 c7
  have HB1 := veil b1
  have HLn := veil hL
  clear r0 b0 b1 n1 n2 n3 n4 n5 n5' m1 m2 m3 m4 hL hdl
  go_enter Tryd.func19, Tryd.ntmps19
  go_wp2_with fail
  have hsz : (w.alloc (.cells (FrM.mk 14 st of li co fi da ra).cells 39)).heap.size = w.heap.size + 1 := by simp
  have hq := fr_nums _ _ NLO.out (show 1 ≤ 1000 by decide) (fun j _ => gu_le _ _ HLe.out j) (HLn.out.step HB1.out)
  rw [hsz] at hq
  refine hq.mono ?_
  rintro e1 w1 ⟨v, rfl, hrow, hb⟩
  have HRow := veil (own_low hrow HB1.out.size)
  have HB2 := veil (HB1.out.trans (hb.mono HB1.out.size))
  clear hrow hb hq
  go_wp2_with fail
  go_ret
  exact ⟨v, rfl, HRow.out, HB2.out⟩
end Go.Proofs.YtnngeojhlfkdiaaDoor

/-! frame.fieldsOf: the fields of a frame that are not zero, a bit each. -/
namespace Go.Proofs.YtnngeojhlfkdiaaDoor
open Go Go.RowKit

/-- The first k of seven bits, as a number. -/
def bitN (b : Bool) (n : Nat) : Nat := if b then n else 0
def bsum (b : Nat → Bool) : Nat → Nat
  | 0 => 0
  | k + 1 => bsum b k + bitN (b k) (2 ^ k)
theorem bsum_lt (b : Nat → Bool) : ∀ k, bsum b k < 2 ^ k
  | 0 => by simp [bsum]
  | k + 1 => by
    have := bsum_lt b k
    have e : 2 ^ (k + 1) = 2 ^ k + 2 ^ k := by rw [Nat.pow_succ]; omega
    unfold bsum bitN
    split <;> omega
theorem or_bit : ∀ (k : Fin 7) (F : Fin 128), F.val < 2 ^ k.val → bits .or .i64 (F.val : Int) ((2 ^ k.val : Nat) : Int) = ((F.val + 2 ^ k.val : Nat) : Int) := by decide +kernel
theorem or_sum (b : Nat → Bool) (k : Nat) (hk : k < 7) : bits .or .i64 (bsum b k : Int) ((2 ^ k : Nat) : Int) = ((bsum b k + 2 ^ k : Nat) : Int) := by
  have h1 := bsum_lt b k
  have h2 : 2 ^ k ≤ 64 := by
    have := Nat.pow_le_pow_right (show 0 < 2 by decide) (show k ≤ 6 by omega)
    simpa using this
  exact or_bit ⟨k, hk⟩ ⟨bsum b k, by omega⟩ h1
/-- Has a frame a field? -/
def hasF (f : Fr.Frame) : Nat → Bool
  | 0 => decide (f.stream ≠ 0)
  | 1 => decide (f.offset ≠ 0)
  | 2 => decide (f.limit ≠ 0)
  | 3 => decide (f.code ≠ 0)
  | 4 => f.fin
  | 5 => decide (0 < f.data.length)
  | _ => decide (0 < f.ranges.length)
def fieldsN (f : Fr.Frame) : Nat := bsum (hasF f) 7
def fldC (b : Nat → Bool) : Array Value := #[.int .i64 1, .bool (b 0), .int .i64 2, .bool (b 1), .int .i64 4, .bool (b 2), .int .i64 8, .bool (b 3), .int .i64 16, .bool (b 4), .int .i64 32, .bool (b 5), .int .i64 64, .bool (b 6)]
theorem fldC_at {W : World} {g : Nat} {t : TypeId} {b : Nat → Bool} (r : Row W g t (fldC b)) (k : Nat) (hk : k < 7) : W.cell? ⟨g, k * 2, none⟩ = some (.int .i64 ((2 ^ k : Nat) : Int)) ∧ W.cell? ⟨g, k * 2 + 1, none⟩ = some (.bool (b k)) := by
  have hq : k = 0 ∨ k = 1 ∨ k = 2 ∨ k = 3 ∨ k = 4 ∨ k = 5 ∨ k = 6 := by omega
  rcases hq with rfl | rfl | rfl | rfl | rfl | rfl | rfl
  · exact ⟨r.cell 0, r.cell 1⟩
  · exact ⟨r.cell 2, r.cell 3⟩
  · exact ⟨r.cell 4, r.cell 5⟩
  · exact ⟨r.cell 6, r.cell 7⟩
  · exact ⟨r.cell 8, r.cell 9⟩
  · exact ⟨r.cell 10, r.cell 11⟩
  · exact ⟨r.cell 12, r.cell 13⟩

set_option maxRecDepth 20000 in
set_option maxHeartbeats 4000000 in
theorem fr_fields (f : FrM) (w : World) (hd : f.data.b.length = f.data.len) (hr : f.ranges.l.length = f.ranges.len) :
    Calls Tryd.prog 33 #[.agg f.cells] w fun e w' => e = .returned (.int .i64 (fieldsN f.fr : Int)) ∧ Below w.heap.size w w' := by
  obtain ⟨b, eb⟩ : ∃ b, b = hasF f.fr := ⟨_, rfl⟩
  unfold fieldsN
  rw [← eb]
  have g0 : ((f.stream : Int) != 0) = b 0 := by rw [eb]; show _ = decide (f.stream ≠ 0); by_cases h : f.stream = 0 <;> simp [h]
  have g1 : ((f.offset : Int) != 0) = b 1 := by rw [eb]; show _ = decide (f.offset ≠ 0); by_cases h : f.offset = 0 <;> simp [h]
  have g2 : ((f.limit : Int) != 0) = b 2 := by rw [eb]; show _ = decide (f.limit ≠ 0); by_cases h : f.limit = 0 <;> simp [h]
  have g3 : ((f.code : Int) != 0) = b 3 := by rw [eb]; show _ = decide (f.code ≠ 0); by_cases h : f.code = 0 <;> simp [h]
  have g4 : f.fin = b 4 := by rw [eb]; rfl
  have g5 : decide (0 < f.data.len) = b 5 := by rw [eb]; show _ = decide (0 < f.data.b.length); rw [hd]
  have g6 : decide (0 < f.ranges.len) = b 6 := by rw [eb]; show _ = decide (0 < f.ranges.l.length); rw [hr]
  clear eb hd hr
  obtain ⟨k, st, of, li, co, fi, da, ra⟩ := f
  simp only at g0 g1 g2 g3 g4 g5 g6
  subst g4
  have r0 : Row (w.alloc (.cells (FrM.mk k st of li co (b 4) da ra).cells 39)) w.heap.size 39 (FrM.mk k st of li co (b 4) da ra).cells := Row.new _ _ _
  have r1 : Row ((w.alloc (.cells (FrM.mk k st of li co (b 4) da ra).cells 39)).alloc (.cells (fldC b) 71)) (w.heap.size + 1) 71 (fldC b) := Row.new1 _ _ _ _
  have b0 : Below w.heap.size w ((w.alloc (.cells (FrM.mk k st of li co (b 4) da ra).cells 39)).alloc (.cells (fldC b) 71)) := ((Below.refl _ w).alloc (Nat.le_refl _) _).alloc (by simp) _
  obtain ⟨c0, c1, c2, c3, c4, c5, c6, c7⟩ := fr_cells r0
  simp only at c0 c1 c2 c3 c4 c5 c6 c7
  have hl1 := r1.lt
  have HR1 := veil r1
  have HB0 := veil b0
  clear r0 r1 b0
  go_enter Tryd.func33, Tryd.ntmps33
  go_wp2_with fail
  show Code.wp _ _ _ _ ((w.alloc (.cells (FrM.mk k st of li co (b 4) da ra).cells 39)).alloc (.cells (fldC b) 71))
  generalize ((w.alloc (.cells (FrM.mk k st of li co (b 4) da ra).cells 39)).alloc (.cells (fldC b) 71)) = W1 at *
  clear g0 g1 g2 g3 g5 g6
  go_loopw [3, 37] (fun v i wr => ∃ k : Nat, k ≤ 7 ∧ i = .int .i64 k ∧ v = .int .i64 (bsum b k : Int) ∧ Below W1.heap.size W1 wr)
    (fun _ i _ => 7 - (intOf i).toNat)
  case atStart => exact ⟨0, Nat.zero_le _, rfl, rfl, Below.refl _ _⟩
  case round =>
    obtain ⟨k, hk, rfl, rfl, hbel⟩ := hrel
    by_cases hlt : k < 7
    · have hkI : decide ((k : Int) < 7) = true := by simp; omega
      obtain ⟨q1, q2⟩ := fldC_at (HR1.out.below hbel hl1) k hlt
      have HS := veil (or_sum b k hlt)
      have HB := veil (HB0.out.trans (hbel.mono HB0.out.size))
      have HN := veil (show bsum b (k + 1) = bsum b k + bitN (b k) (2 ^ k) from rfl)
      have hbel' := veil hbel
      clear hbel
      cases hb : b k with
      | true =>
        rw [hb] at q2
        have hor := HS.out
        generalize (2 ^ k : Nat) = p at *
        generalize (bsum b k) = y at *
        go_wp2_with fail
        go_roundw
        case rel => exact ⟨k + 1, by omega, by go_num, by rw [HN.out, hb]; rfl, (hbel'.out.alloc hbel'.out.size _)⟩
        case measure => simp [intOf]; omega
      | false =>
        rw [hb] at q2
        generalize (2 ^ k : Nat) = p at *
        generalize (bsum b k) = y at *
        go_wp2_with fail
        go_roundw
        case rel => exact ⟨k + 1, by omega, by go_num, by rw [HN.out, hb]; rfl, (hbel'.out.alloc hbel'.out.size _)⟩
        case measure => simp [intOf]; omega
    · obtain rfl : k = 7 := by omega
      have HB := veil (HB0.out.trans (hbel.mono HB0.out.size))
      clear hbel
      go_wp2_with fail
      go_ret
      exact ⟨rfl, HB.out⟩
end Go.Proofs.YtnngeojhlfkdiaaDoor

/-! frame.isSet: do ranges tell a set that an answer may have? -/
namespace Go.Proofs.YtnngeojhlfkdiaaDoor
open Go Go.RowKit

/-- May an answer have these ranges? -/
def ackOk (l : List (Nat × Nat)) : Prop := l ≠ [] ∧ l.length ≤ 64 ∧ Fr.setL l

set_option maxRecDepth 20000 in
set_option maxHeartbeats 4000000 in
theorem fr_set (s : RL) (w : World) (hs : s.Ok w) :
    Calls Tryd.prog 34 #[.slice s.a s.len s.cap] w fun e w' => (e = .returned (.bool true) ∧ ackOk s.l ∨ e = .returned (.bool false) ∧ ¬ ackOk s.l) ∧ Below w.heap.size w w' := by
  obtain ⟨a, len, cap, g, off, l⟩ := s
  have hll : l.length = len := hs.hb
  by_cases h0 : len = 0
  · have e0 : decide ((len : Int) < 1) = true := by simp; omega
    have e0n : decide (len < 1) = true := by simp; omega
    have HH := veil (show ¬ ackOk l from fun h => h.1 (List.eq_nil_of_length_eq_zero (by omega)))
    clear hs hll h0
    go_enter Tryd.func34, Tryd.ntmps34
    go_wp2_with fail
    go_ret
    exact ⟨.inr ⟨rfl, HH.out⟩, Below.refl _ _⟩
  have e0 : decide ((len : Int) < 1) = false := by simp; omega
  have e0n : decide (len < 1) = false := by simp; omega
  by_cases h64 : 64 < len
  · have e64 : decide ((len : Int) > 64) = true := by simp; omega
    have e64' : decide ((64 : Int) < (len : Int)) = true := by simp; omega
    have e64n : decide (64 < len) = true := by simp; omega
    have HH := veil (show ¬ ackOk l from fun h => by have := h.2.1; omega)
    clear hs hll h64 h0
    go_enter Tryd.func34, Tryd.ntmps34
    go_wp2_with fail
    go_ret
    exact ⟨.inr ⟨rfl, HH.out⟩, Below.refl _ _⟩
  · have e64 : decide ((64 : Int) < (len : Int)) = false := by simp; omega
    have e64n : decide (64 < len) = false := by simp; omega
    have HP := veil hs
    have HL := veil hll
    have H64 := veil h64
    have HNE := veil (show l ≠ [] from fun h => h0 (by rw [h] at hll; exact hll.symm))
    have hl64 : len ≤ 64 := by omega
    clear hs hll h64 h0
    go_enter Tryd.func34, Tryd.ntmps34
    go_wp2_with fail
    go_loopw [15] (fun i wr => ∃ k : Nat, k ≤ len ∧ i = .int .i64 k ∧ setTo l k ∧ Below w.heap.size w wr)
      (fun i _ => len - (intOf i).toNat)
    case atStart => exact ⟨0, Nat.zero_le _, rfl, fun j hj => absurd hj (Nat.not_lt_zero _), Below.refl _ _⟩
    case round =>
      obtain ⟨k, hk, rfl, hto, hbel⟩ := hrel
      by_cases hlt : k < len
      · have e1 : a = some ⟨g, off, none⟩ := HP.out.at_ (show 0 < len by omega)
        subst e1
        obtain ⟨c1, c2⟩ := (HP.out.below hbel).cell k hlt
        have sm := HP.out.small k
        simp only at c1 c2 sm
        have HTO := veil hto
        have HLt := veil hlt
        have HB := veil hbel
        have HBa := veil (fun o => hbel.alloc hbel.size o)
        have HLT := veil ((HP.out.below hbel).lt (show 0 < len by omega))
        clear hto hbel
        have hno : ¬ ((gr l k).1 ≤ (gr l k).2 ∧ (gr l k).2 ≤ 4611686018427387903 ∧ (0 < k → (gr l (k - 1)).2 + 1 < (gr l k).1)) → ¬ ackOk l := fun hn hq => hn (setL_to l hq.2.2 (k + 1) (by have := HL.out; omega) k (by omega))
        have HNO := veil hno
        clear hno
        by_cases h1 : (gr l k).1 ≤ (gr l k).2
        · have f1 : decide (((gr l k).2 : Int) < ((gr l k).1 : Int)) = false := by simp; omega
          by_cases h2 : (gr l k).2 ≤ 4611686018427387903
          · have f2 : decide ((4611686018427387903 : Int) < ((gr l k).2 : Int)) = false := by simp; omega
            by_cases hk0 : k = 0
            · have f3 : decide ((0 : Int) < (k : Int)) = false := by simp; omega
              have f3n : decide (0 < k) = false := by simp; omega
              have HS := veil (setTo_succ HTO.out h1 h2 (fun h => by omega))
              clear h1 h2 hk0 HNO sm HTO
              generalize ((gr l k).1 : Int) = y at *
              generalize ((gr l k).2 : Int) = z at *
              go_wp2
              go_quiet (fail)
              go_wp2
              go_roundw
              case rel => exact ⟨k + 1, by have := HLt.out; omega, by go_num, HS.out, below_drewN (HBa.out _) _⟩
              case measure => have := HLt.out; simp [intOf]; omega
            · have f3 : decide ((0 : Int) < (k : Int)) = true := by simp; omega
              have f3n : decide (0 < k) = true := by simp; omega
              have hk1 : (k : Int) - 1 = ((k - 1 : Nat) : Int) := by omega
              have hk2 : k - 1 < len := by omega
              have hkw : IntKind.i64.wrap ((k - 1 : Nat) : Int) = ((k - 1 : Nat) : Int) := by have := H64.out; rw [IntKind.wrap_i64]; omega
              have hc4 : ∀ o, ((wr.alloc o).cell? ⟨g, off + (k - 1) * 2 + 1, none⟩) = some (.int .u64 ((gr l (k - 1)).2 : Int)) := fun o => ((HP.out.below (HBa.out o)).cell (k - 1) hk2).2
              have HC4 := veil hc4
              have hp := (HTO.out (k - 1) (by omega)).2.1
              have hw : IntKind.u64.wrap (((gr l (k - 1)).2 : Int) + 2) = (((gr l (k - 1)).2 + 2 : Nat) : Int) := by rw [IntKind.wrap_u64]; omega
              clear hc4
              by_cases h3 : (gr l (k - 1)).2 + 1 < (gr l k).1
              · have f4 : decide (((gr l k).1 : Int) < (((gr l (k - 1)).2 + 2 : Nat) : Int)) = false := by simp; omega
                have HS := veil (setTo_succ HTO.out h1 h2 (fun _ => h3))
                clear h1 h2 h3 hk0 HNO sm HTO hp
                generalize (((gr l (k - 1)).2 + 2 : Nat) : Int) = p at *
                generalize ((gr l (k - 1)).2 : Int) = q at *
                generalize ((gr l k).1 : Int) = y at *
                generalize ((gr l k).2 : Int) = z at *
                have c4 := HC4.out (.cells #[.int .u64 y, .int .u64 z] 44)
                go_wp2
                go_quiet (fail)
                go_wp2
                go_roundw
                case rel => exact ⟨k + 1, by have := HLt.out; omega, by go_num, HS.out, below_drewN (HBa.out _) _⟩
                case measure => have := HLt.out; simp [intOf]; omega
              · have f4 : decide (((gr l k).1 : Int) < (((gr l (k - 1)).2 + 2 : Nat) : Int)) = true := by simp; omega
                have HH := veil (HNO.out fun h => h3 (h.2.2 (by omega)))
                clear h1 h2 h3 hk0 HNO sm HTO hp
                generalize (((gr l (k - 1)).2 + 2 : Nat) : Int) = p at *
                generalize ((gr l (k - 1)).2 : Int) = q at *
                generalize ((gr l k).1 : Int) = y at *
                generalize ((gr l k).2 : Int) = z at *
                have c4 := HC4.out (.cells #[.int .u64 y, .int .u64 z] 44)
                go_wp2
                go_quiet (fail)
                go_wp2
                go_ret
                exact ⟨.inr ⟨rfl, HH.out⟩, below_drewN (HBa.out _) _⟩
          · have f2 : decide ((4611686018427387903 : Int) < ((gr l k).2 : Int)) = true := by simp; omega
            have HH := veil (HNO.out fun h => h2 h.2.1)
            clear h1 h2 HNO sm HTO
            generalize ((gr l k).1 : Int) = y at *
            generalize ((gr l k).2 : Int) = z at *
            go_wp2
            go_ret
            exact ⟨.inr ⟨rfl, HH.out⟩, HBa.out _⟩
        · have f1' : decide (((gr l k).2 : Int) < ((gr l k).1 : Int)) = true := by simp; omega
          have HH := veil (HNO.out fun h => h1 h.1)
          clear h1 HNO sm
          generalize ((gr l k).1 : Int) = y at *
          generalize ((gr l k).2 : Int) = z at *
          go_wp2
          go_ret
          exact ⟨.inr ⟨rfl, HH.out⟩, HBa.out _⟩
      · obtain rfl : len = k := by omega
        have HH := veil (show ackOk l from ⟨HNE.out, by have := HL.out; have := H64.out; omega, setTo_L l (by rw [HL.out]; exact hto)⟩)
        have HB := veil hbel
        clear hto hbel
        go_wp2
        go_ret
        exact ⟨.inl ⟨rfl, HH.out⟩, HB.out⟩
end Go.Proofs.YtnngeojhlfkdiaaDoor

/-! When a frame may be, by its fields' bits. No program in sight. -/
namespace Go.Proofs.YtnngeojhlfkdiaaDoor
open Go Go.RowKit

/-- The fields that the row of each kind names. -/
def namedN : Nat → Nat
  | 1 => 4 | 3 => 68 | 4 => 13 | 5 => 9 | 6 => 34 | 7 => 51 | 8 => 4 | 9 => 5 | 10 => 20 | 11 => 4 | 12 => 5 | 13 => 56 | _ => 0
def tb (k j : Nat) : Bool := (namedN k).testBit j
theorem bits_ok : ∀ (k : Fin 15) (b0 b1 b2 b3 b4 b5 b6 : Bool), ((tb k.val 0 || !b0) && (tb k.val 1 || !b1) && (tb k.val 2 || !b2) && (tb k.val 3 || !b3) && (tb k.val 4 || !b4) && (tb k.val 5 || !b5) && (tb k.val 6 || !b6)) = decide ((0 + bitN b0 1 + bitN b1 2 + bitN b2 4 + bitN b3 8 + bitN b4 16 + bitN b5 32 + bitN b6 64) &&& (127 - namedN k.val) = 0) := by decide +kernel
theorem andNot_ok : ∀ (k : Fin 15) (F : Fin 128), (bits .andNot .i64 (F.val : Int) (namedN k.val : Int) != 0) = !decide (F.val &&& (127 - namedN k.val) = 0) := by decide +kernel
theorem bare_bits (f : Fr.Frame) (s o l c fi d r : Bool) : Fr.bareF f s o l c fi d r ↔ ((s || !hasF f 0) && (o || !hasF f 1) && (l || !hasF f 2) && (c || !hasF f 3) && (fi || !hasF f 4) && (d || !hasF f 5) && (r || !hasF f 6)) = true := by
  have hd : decide (0 < f.data.length) = false ↔ f.data = [] := by
    rw [decide_eq_false_iff_not]
    constructor
    · intro h; exact List.eq_nil_of_length_eq_zero (by omega)
    · intro h; rw [h]; simp
  have hr : decide (0 < f.ranges.length) = false ↔ f.ranges = [] := by
    rw [decide_eq_false_iff_not]
    constructor
    · intro h; exact List.eq_nil_of_length_eq_zero (by omega)
    · intro h; rw [h]; simp
  unfold Fr.bareF
  simp only [Bool.and_eq_true, Bool.or_eq_true, Bool.not_eq_true', hasF, hd, hr, decide_eq_false_iff_not, ne_eq, Decidable.not_not, and_assoc]
theorem fields_bits (f : Fr.Frame) : fieldsN f = 0 + bitN (hasF f 0) 1 + bitN (hasF f 1) 2 + bitN (hasF f 2) 4 + bitN (hasF f 3) 8 + bitN (hasF f 4) 16 + bitN (hasF f 5) 32 + bitN (hasF f 6) 64 := rfl
theorem fields_lt (f : Fr.Frame) : fieldsN f < 128 := bsum_lt _ 7
/-- Has a frame nothing but what its row names? -/
def bareK (f : Fr.Frame) : Prop := fieldsN f &&& (127 - namedN f.kind) = 0
theorem bare_k (f : Fr.Frame) (k : Nat) (hk : f.kind = k) (h : k < 15) : bareK f ↔ Fr.bareF f (tb k 0) (tb k 1) (tb k 2) (tb k 3) (tb k 4) (tb k 5) (tb k 6) := by
  rw [bare_bits, bits_ok ⟨k, h⟩]
  unfold bareK
  rw [hk, fields_bits, decide_eq_true_iff]
def maxN4 (f : Fr.Frame) : Nat := max (max (max f.stream f.offset) f.limit) f.code
/-- What else is asked of a frame of its kind. -/
def extraF (f : Fr.Frame) : Prop := match f.kind with
  | 1 => 1 ≤ f.limit ∧ f.limit ≤ 65536
  | 3 => ackOk f.ranges
  | 6 => f.offset + f.data.length ≤ 4611686018427387903
  | 7 => f.offset + f.data.length ≤ 4611686018427387903
  | 10 => f.limit ≤ 1152921504606846976
  | _ => True
theorem may_split (f : Fr.Frame) (hd : f.data.length ≤ 4194304) : Fr.mayF f ↔ isK f.kind = true ∧ bareK f ∧ maxN4 f ≤ 4611686018427387903 ∧ extraF f := by
  by_cases hk : isK f.kind = true
  · have hK : f.kind ≠ 0 ∧ f.kind < 15 := by unfold isK at hk; simpa using hk
    have hq : f.kind = 1 ∨ f.kind = 2 ∨ f.kind = 3 ∨ f.kind = 4 ∨ f.kind = 5 ∨ f.kind = 6 ∨ f.kind = 7 ∨ f.kind = 8 ∨ f.kind = 9 ∨ f.kind = 10 ∨ f.kind = 11 ∨ f.kind = 12 ∨ f.kind = 13 ∨ f.kind = 14 := by omega
    rcases hq with q | q | q | q | q | q | q | q | q | q | q | q | q | q <;>
    · rw [bare_k f _ q (by omega)]
      unfold Fr.mayF extraF Fr.numsF maxN4
      rw [q]
      simp only [tb, namedN]
      constructor
      · rintro ⟨⟨n1, n2, n3, n4, n5⟩, h⟩
        first
          | exact ⟨by first | exact hk | rfl, h.1, by omega, h.2⟩
          | exact ⟨by first | exact hk | rfl, h, by omega, n5⟩
          | exact ⟨by first | exact hk | rfl, h, by omega, trivial⟩
      · rintro ⟨_, h, hm, hx⟩
        have h5 : f.offset + f.data.length ≤ 4611686018427387903 := by
          first
            | exact hx
            | (have h2 := h.2.1
               rcases h2 with h2 | h2
               · exact absurd h2 (by decide)
               · omega)
        first
          | exact ⟨⟨by omega, by omega, by omega, by omega, h5⟩, h, hx⟩
          | exact ⟨⟨by omega, by omega, by omega, by omega, h5⟩, h⟩
  · constructor
    · intro h
      have := may_kind h
      exact absurd (by unfold isK; simp; omega) hk
    · rintro ⟨h, _⟩
      exact absurd h hk
end Go.Proofs.YtnngeojhlfkdiaaDoor

/-! frame.mayBe: may a frame be? -/
namespace Go.Proofs.YtnngeojhlfkdiaaDoor
open Go Go.RowKit

section
variable {F : Fence} {n : Nat} {P : Program} {ops : Array Oper} {Q : Exit → Act → World → Prop} {a : Act} {w : World}
theorem OI_off2 {i : Nat} {K : Act → World → Prop} (h1 : i < ops.size) (hw : Region.wanted ops[i] (yielded ops a.tmps) = false) (hab : ∀ f, ops[i].about P w a.eval = some f → F.fn f) (h : K (a.put ops[i].dst undef) w) : wpOpIn F n P ops Q i K a w := by
  unfold wpOpIn
  simp only [Array.getElem?_eq_getElem h1, hw]
  exact ⟨hab, h⟩
theorem OI_value2 {i : Nat} {K : Act → World → Prop} (h1 : i < ops.size) (hw : Region.wanted ops[i] (yielded ops a.tmps) = true) (hab : ops[i].about P w a.eval = none) (hd : ∀ c, ops[i].op ≠ .defer c) (v : Value) (w' : World)
    (he : (execOp a.eval ops[i]).run P w = .ok (.value v) w') (h : K (a.put ops[i].dst v) w') : wpOpIn F n P ops Q i K a w :=
  OI_value (Array.getElem?_eq_getElem h1) hw hab hd v w' he h
theorem OI_call2 {i : Nat} {K : Act → World → Prop} (h1 : i < ops.size) (hw : Region.wanted ops[i] (yielded ops a.tmps) = true) (hd : ∀ c, ops[i].op ≠ .defer c) (f : Nat) (args : Array Value) (hab : ∀ g, ops[i].about P w a.eval = some g → F.fn g)
    (he : (execOp a.eval ops[i]).run P w = .ok (.enter f args) w) (hn : 1 ≤ n) (hc : CallsIn F (n - 1) P f args w fun e w' => ∃ v, e = .returned v ∧ K (a.put ops[i].dst v) w') : wpOpIn F n P ops Q i K a w :=
  OI_call (Array.getElem?_eq_getElem h1) hw hd f args hab he hn hc
/-- A call that may leave by a panic. -/
theorem OI_callP {o : Oper} {i : Nat} {K : Act → World → Prop} (hi : ops[i]? = some o) (hw : Region.wanted o (yielded ops a.tmps) = true) (hd : ∀ c, o.op ≠ .defer c) (f : Nat) (args : Array Value) (hab : ∀ g, o.about P w a.eval = some g → F.fn g)
    (he : (execOp a.eval o).run P w = .ok (.enter f args) w) (hn : 1 ≤ n) (hc : CallsIn F (n - 1) P f args w fun e w' => (∃ v, e = .returned v ∧ K (a.put o.dst v) w') ∨ ∃ c, e = .panicked c ∧ Q (.panic c) a w') : wpOpIn F n P ops Q i K a w := by
  unfold wpOpIn
  simp only [hi, hw, if_true]
  unfold Oper.wpIn
  refine ⟨hab, ?_⟩
  rw [Oper.semAt_eq _ _ _ hd, he]
  exact ⟨fun _ => hn, hc.mono (by rintro e w' (⟨v, rfl, h⟩ | ⟨c, rfl, h⟩) <;> exact h)⟩
end
theorem run_atG {P : Program} {a : Act} {o : Oper} (t e : TypeId) (n : Nat) (x ix : Operand) (g j : Nat) (ho : o.op = .indexAddr t x ix) (hx : a.eval x = .pointer (some ⟨g, 0, none⟩)) (hix : a.eval ix = .int .u8 (j : Int))
    (hu : P.underlying t = some (.array n e)) (hi : (P.info? e).map (·.size) = some 1) (hj : j < n) (W : World) : (execOp a.eval o).run P W = .ok (.value (.pointer (some ⟨g, j, none⟩))) W := by
  have hsz : (sizeOf e).run P W = .ok 1 W := by
    cases hq : P.info? e with
    | none => simp [hq] at hi
    | some i =>
      have : i.size = 1 := by simpa [hq] using hi
      simp [sizeOf, typeInfo, hq, this]
  unfold execOp
  simp [ho, hx, hix, Instr.indexAt, Instr.sureAddr, asIntOf, run_underlying hu, hj, hsz, Addr.add]
  omega

/-- The table of the fields that each kind names. -/
def Named (w : World) : Prop := ∀ j, j < 15 → w.cell? ⟨0, j, none⟩ = some (.int .i64 (namedN j : Int))
theorem Named.step {w w' : World} (h : Named w) (hb : Below w.heap.size w w') : Named w' := by
  have hp : 0 < w.heap.size := by
    rcases Nat.lt_or_ge 0 w.heap.size with h0 | h0
    · exact h0
    · have := h 0 (by decide)
      simp [World.cell?, Array.getElem?_eq_none h0] at this
  exact fun j hj => (hb.cell (p := ⟨0, j, none⟩) hp).trans (h j hj)

def depMB : Nat → List Nat
  | 1 => [0]
  | 2 => [1]
  | 3 => [2]
  | 4 => [3]
  | 5 => [4]
  | 6 => [4, 5]
  | 7 => [4]
  | 8 => [4, 7]
  | 9 => [4, 8]
  | 10 => [4, 9]
  | 11 => [4, 6, 10]
  | 12 => [4, 11]
  | 13 => [4, 12]
  | _ => []
def valMA (g k : Nat) : Nat → Value
  | 0 => .pointer (some ⟨g, 0, none⟩)
  | 1 => .int .u8 (k : Int)
  | 2 => .bool false
  | 3 => .bool true
  | 4 => .bool true
  | 13 => .bool true
  | _ => undef
def valMB (g : Nat) (f : FrM) : Nat → Value
  | 0 => .pointer (some ⟨g, 0, none⟩)
  | 1 => .int .u8 (f.kind : Int)
  | 2 => .bool true
  | 3 => .bool false
  | 4 => .bool false
  | 5 => .agg f.cells
  | 6 => .int .i64 (fieldsN f.fr : Int)
  | 7 => .pointer (some ⟨g, 0, none⟩)
  | 8 => .int .u8 (f.kind : Int)
  | 9 => .pointer (some ⟨0, f.kind, none⟩)
  | 10 => .int .i64 (namedN f.kind : Int)
  | 11 => .int .i64 (bits .andNot .i64 (fieldsN f.fr : Int) (namedN f.kind : Int))
  | 12 => .bool (bits .andNot .i64 (fieldsN f.fr : Int) (namedN f.kind : Int) != 0)
  | 13 => .bool (bits .andNot .i64 (fieldsN f.fr : Int) (namedN f.kind : Int) != 0)
  | _ => undef

set_option maxRecDepth 20000 in
set_option maxHeartbeats 400000 in
theorem fr_may_no (f : FrM) (w : World) (hf : f.Ok w) (hk : isK f.kind = false) :
    Calls Tryd.prog 25 #[.agg f.cells] w fun e w' => e = .returned (.bool false) ∧ Below w.heap.size w w' := by
  have k8 := hf.k8
  obtain ⟨k, st, of, li, co, fi, da, ra⟩ := f
  have r0 : Row (w.alloc (.cells (FrM.mk k st of li co fi da ra).cells 39)) w.heap.size 39 (FrM.mk k st of li co fi da ra).cells := Row.new _ _ _
  have b0 : Below w.heap.size w (w.alloc (.cells (FrM.mk k st of li co fi da ra).cells 39)) := (Below.refl _ w).alloc (Nat.le_refl _) _
  have hl0 := r0.lt
  have HR0 := veil r0
  have HB0 := veil b0
  have HK := veil hk
  simp only at k8
  clear hf r0 b0 hk
  refine (callsIn_wide (n := 4)).1 ?_
  refine callsIn_of_wp Tryd.func25 rfl trivial ?_ rfl
  simp only [Tryd.ntmps25, List.size_toArray, List.length_cons, List.length_nil, Nat.reduceAdd, Nat.reduceSub, Array.replicate_succ, Array.replicate_zero, List.push_toArray, List.append_toArray, List.nil_append, List.cons_append]
  gi_wp2_with fail
  refine wpIn_region_any (by kernel_rfl) ?_
  refine anyIn_vals2 (w0 := (w.alloc (.cells (FrM.mk k st of li co fi da ra).cells 39))) (valMA w.heap.size k) [3, 4, 5, 6, 7, 8, 9, 10, 11, 12, 13, 14, 15, 16] depMB (by kernel_rfl) rfl (by decide) ((Below.refl _ _).drew) ?step3 ?done3
  case step3 =>
    intro x W ii d hW hdi hdep
    have c0 := (fr_cells (HR0.out.below hW hl0)).1
    simp only at c0
    match ii, hdi, hdep with
    | 0, hdi, _ =>
      obtain rfl := Option.some.inj hdi
      exact OI_value rfl rfl (about_none (by intro c h; cases h)) (by intro c h; cases h) (.pointer (some ⟨w.heap.size, 0, none⟩)) W (by kernel_rfl) ⟨rfl, Below.refl _ _⟩
    | 1, hdi, hdep =>
      obtain rfl := Option.some.inj hdi
      rw [updV_self (hdep 0 (by simp [depMB]))]
      exact OI_value rfl rfl (about_none (by intro c h; cases h)) (by intro c h; cases h) (.int .u8 (k : Int)) W (run_cellF 35 _ ⟨w.heap.size, 0, none⟩ _ _ rfl (by kernel_rfl) Tryd.underlying35 rfl W c0) ⟨rfl, Below.refl _ _⟩
    | 2, hdi, hdep =>
      obtain rfl := Option.some.inj hdi
      rw [updV_self (hdep 1 (by simp [depMB]))]
      refine OI_call rfl rfl (by intro c h; cases h) 22 #[.int .u8 (k : Int)] (fun _ _ => trivial) (by kernel_rfl) (by decide) ?_
      refine (callsIn_wide.2 (fr_kind k W k8)).mono ?_
      rintro e w' ⟨rfl, rfl⟩
      exact ⟨_, rfl, by rw [HK.out]; rfl, Below.refl _ _⟩
    | 3, hdi, hdep =>
      obtain rfl := Option.some.inj hdi
      rw [updV_self (hdep 2 (by simp [depMB]))]
      exact OI_value rfl rfl (about_none (by intro c h; cases h)) (by intro c h; cases h) (.bool true) W (by kernel_rfl) ⟨rfl, Below.refl _ _⟩
    | 4, hdi, hdep =>
      obtain rfl := Option.some.inj hdi
      rw [updV_self (hdep 3 (by simp [depMB]))]
      exact OI_value rfl rfl (about_none (by intro c h; cases h)) (by intro c h; cases h) (.bool true) W (by kernel_rfl) ⟨rfl, Below.refl _ _⟩
    | 5, hdi, hdep =>
      obtain rfl := Option.some.inj hdi
      rw [updV_self (hdep 4 (by simp [depMB]))]
      with_reducible refine OI_off2 ?_ ?_ ?_ ?_
      · decide
      · kernel_rfl
      · exact fun _ _ => trivial
      · exact ⟨rfl, Below.refl _ _⟩
    | 6, hdi, hdep =>
      obtain rfl := Option.some.inj hdi
      rw [updV_self (hdep 4 (by simp [depMB]))]
      with_reducible refine OI_off2 ?_ ?_ ?_ ?_
      · decide
      · kernel_rfl
      · exact fun _ _ => trivial
      · exact ⟨rfl, Below.refl _ _⟩
    | 7, hdi, hdep =>
      obtain rfl := Option.some.inj hdi
      rw [updV_self (hdep 4 (by simp [depMB]))]
      with_reducible refine OI_off2 ?_ ?_ ?_ ?_
      · decide
      · kernel_rfl
      · exact fun _ _ => trivial
      · exact ⟨rfl, Below.refl _ _⟩
    | 8, hdi, hdep =>
      obtain rfl := Option.some.inj hdi
      rw [updV_self (hdep 4 (by simp [depMB]))]
      with_reducible refine OI_off2 ?_ ?_ ?_ ?_
      · decide
      · kernel_rfl
      · exact fun _ _ => trivial
      · exact ⟨rfl, Below.refl _ _⟩
    | 9, hdi, hdep =>
      obtain rfl := Option.some.inj hdi
      rw [updV_self (hdep 4 (by simp [depMB]))]
      with_reducible refine OI_off2 ?_ ?_ ?_ ?_
      · decide
      · kernel_rfl
      · exact fun _ _ => trivial
      · exact ⟨rfl, Below.refl _ _⟩
    | 10, hdi, hdep =>
      obtain rfl := Option.some.inj hdi
      rw [updV_self (hdep 4 (by simp [depMB]))]
      with_reducible refine OI_off2 ?_ ?_ ?_ ?_
      · decide
      · kernel_rfl
      · exact fun _ _ => trivial
      · exact ⟨rfl, Below.refl _ _⟩
    | 11, hdi, hdep =>
      obtain rfl := Option.some.inj hdi
      rw [updV_self (hdep 4 (by simp [depMB]))]
      with_reducible refine OI_off2 ?_ ?_ ?_ ?_
      · decide
      · kernel_rfl
      · exact fun _ _ => trivial
      · exact ⟨rfl, Below.refl _ _⟩
    | 12, hdi, hdep =>
      obtain rfl := Option.some.inj hdi
      rw [updV_self (hdep 4 (by simp [depMB]))]
      with_reducible refine OI_off2 ?_ ?_ ?_ ?_
      · decide
      · kernel_rfl
      · exact fun _ _ => trivial
      · exact ⟨rfl, Below.refl _ _⟩
    | 13, hdi, hdep =>
      obtain rfl := Option.some.inj hdi
      rw [updV_self (hdep 4 (by simp [depMB])), updV_self (show updV x 4 _ 12 = _ from hdep 12 (by simp [depMB]))]
      exact OI_value rfl rfl (about_none (by intro c h; cases h)) (by intro c h; cases h) (.bool true) W (by kernel_rfl) ⟨rfl, Below.refl _ _⟩
    | _ + 14, hdi, _ => simp at hdi
  case done3 =>
    intro W hW
    have bW := veil (HB0.out.trans (hW.mono HB0.out.size))
    simp only [putsV, valMA, Act.put, List.setIfInBounds_toArray, List.set_cons_succ, List.set_cons_zero, Nat.reduceAdd]
    gi_wp2_with fail
    go_ret
    exact ⟨rfl, bW.out⟩
end Go.Proofs.YtnngeojhlfkdiaaDoor
