/-
  Out of ShaLiftA, ShaLiftS, ChaMid, KyOpenS, KyOpenU.
-/
import Derived.Test.YtlicflmpakkccaaGreatDoorGv1
import Derived.Test.YtlicflmpakkccaaGreatDoorRows
import Derived.ProofKit
import Derived.OpenShut
import Derived.ShutString
import Derived.ChangeOld
import Derived.Test.YtlicflmpakkccaaGreatDoorGv14
import Derived.Deep.MidRow
import Derived.Test.YtlicflmpakkccaaGreatDoorGv18
import Derived.SizedLaws

/-! From what a row says of an array that came in to the words and bytes of the walks. -/
namespace Go.Proofs.YtlicflmpakkccaaGreatDoor
open Go Go.ChangeShapes Go.WideShapes Go.ChangeAt Go.RowKit

theorem own : ownKnob Tryz.prog.godebug = none := by kernel_rfl
theorem laidOut : laidOutB Tryz.prog = true := by kernel_rfl

section
variable {H : Type} {enc : TypeId × Value → H} {P : Program} {w : World} {base : Nat} {spare : Nat → Bool} {held : Bool}

/-- An array of numbers, by its cells. -/
theorem open_array {r : Reach} {b0 : Nat} {t e : TypeId} {n : Nat} {k : IntKind} {v : Value} {d : DataW H} {ps : List MemPlace} (hu : P.underlying t = some (.array n e)) (he : P.underlying e = some (.int k)) (hce : P.cellsOf e = 1) (hct : P.cellsOf t = n)
    (hval : Value.okWide P w r b0 t v) (hd : DataW.Trod enc P w base spare held t v d ps) :
    ∃ cs : Array Value, v = .agg cs ∧ cs.size = n ∧ ∀ j, j < n → ∃ z, cs[j]? = some (.int k z) ∧ (Lit.int k z).wf = true := by
  unfold Value.okWide at hval
  rw [hu] at hval
  obtain ⟨cs, rfl, hsz, _⟩ := hval
  obtain ⟨fuel, hf⟩ := hd
  obtain ⟨xs, m, _, _, _, hl, hel⟩ := DataW.trod_array hu hf
  refine ⟨cs, rfl, by rw [hsz, hct], fun j hj => ?_⟩
  have h1 := hel j hj
  rw [List.getElem?_eq_getElem (by rw [hl]; exact hj), hce] at h1
  obtain ⟨z, hz, _, hw⟩ := DataW.trod_int he h1
  refine ⟨z, ?_, hw⟩
  have h2 := congrArg (·[0]?) hz
  simp only [List.getElem?_take, List.getElem?_drop, Nat.mul_one, Nat.add_zero, Nat.zero_lt_one, if_true, List.getElem?_cons_zero] at h2
  simpa [Value.cells] using h2

theorem open_words {r : Reach} {b0 : Nat} {t e : TypeId} {n : Nat} {v : Value} {d : DataW H} {ps : List MemPlace} (hu : P.underlying t = some (.array n e)) (he : P.underlying e = some (.int .u32)) (hce : P.cellsOf e = 1) (hct : P.cellsOf t = n)
    (hval : Value.okWide P w r b0 t v) (hd : DataW.Trod enc P w base spare held t v d ps) : ∃ s : List Wd, v = .agg (ws s) ∧ s.length = n := by
  obtain ⟨cs, rfl, hsz, hc⟩ := open_array hu he hce hct hval hd
  refine ⟨cs.toList.map fun v => wd (intOf v), ?_, by simp [hsz]⟩
  congr 1
  apply Array.ext
  · simp [ws]
  · intro j h1 h2
    obtain ⟨z, hz, hw⟩ := hc j (by omega)
    have hb := bounds_u32 hw
    rw [Array.getElem?_eq_getElem h1] at hz
    have hz' := Option.some.inj hz
    simp only [ws, List.map_map, List.getElem_toArray, List.getElem_map, Array.getElem_toList, Function.comp, hz', intOf]
    rw [u_wd z hb.1 (by omega)]

theorem open_bytes {r : Reach} {b0 : Nat} {t e : TypeId} {n : Nat} {v : Value} {d : DataW H} {ps : List MemPlace} (hu : P.underlying t = some (.array n e)) (he : P.underlying e = some (.int .u8)) (hce : P.cellsOf e = 1) (hct : P.cellsOf t = n)
    (hval : Value.okWide P w r b0 t v) (hd : DataW.Trod enc P w base spare held t v d ps) : ∃ b : List By, v = .agg (bs b) ∧ b.length = n := by
  obtain ⟨cs, rfl, hsz, hc⟩ := open_array hu he hce hct hval hd
  refine ⟨cs.toList.map fun v => BitVec.ofNat 8 (intOf v).toNat, ?_, by simp [hsz]⟩
  congr 1
  apply Array.ext
  · simp [bs]
  · intro j h1 h2
    obtain ⟨z, hz, hw⟩ := hc j (by omega)
    have hb := bounds_u8 hw
    rw [Array.getElem?_eq_getElem h1] at hz
    have hz' := Option.some.inj hz
    simp only [bs, List.map_map, List.getElem_toArray, List.getElem_map, Array.getElem_toList, Function.comp, hz', intOf]
    have : v8 (BitVec.ofNat 8 z.toNat) = z := by
      unfold v8
      rw [BitVec.toNat_ofNat]
      omega
    rw [this]
end
end Go.Proofs.YtlicflmpakkccaaGreatDoor

/-! A slice of bytes that came in, as the walks ask it. -/
namespace Go.Proofs.YtlicflmpakkccaaGreatDoor
open Go Go.ChangeShapes Go.WideShapes Go.ChangeAt Go.RowKit

structure IsRowB (w : World) (a : Option Addr) (len cap g off : Nat) (b : List By) : Prop where
  hlen : b.length = len
  hmost : len ≤ 9223372036854775807
  hcap : len ≤ cap
  hnil : a = none → len = 0 ∧ cap = 0
  at_ : 0 < len → a = some ⟨g, off, none⟩
  hlt : 0 < len → g < w.heap.size
  hcell : ∀ j : Nat, j < len → w.cell? ⟨g, off + j, none⟩ = some (.int .u8 (v8 (gb b j)))

theorem isRowB_of {w : World} {a : Option Addr} {len cap : Nat} (h : (a = none ∧ len = 0 ∧ cap = 0) ∨ ∃ (x : Addr) (zs : List Int), a = some x ∧ len ≤ cap ∧ cap ≤ maxLen ∧ zs.length = cap ∧ (∀ i, i < zs.length → w.cell? (x.add i) = some (.int .u8 (zs.getD i 0))) ∧ ∀ n ∈ zs, (Lit.int .u8 n).wf = true) :
    ∃ g off b, IsRowB w a len cap g off b := by
  rcases h with ⟨rfl, rfl, rfl⟩ | ⟨x, zs, rfl, hl, hm, hz, hc, hw⟩
  · exact ⟨0, 0, [], rfl, by omega, Nat.le_refl _, fun _ => ⟨rfl, rfl⟩, fun h => by omega, fun h => by omega, fun j h => by omega⟩
  · unfold maxLen at hm
    obtain ⟨g, off, spot⟩ := x
    have hlen : ((zs.take len).map fun z => (BitVec.ofNat 8 z.toNat : By)).length = len := by rw [List.length_map, List.length_take]; omega
    have hsp : 0 < len → spot = none := fun h0 => by
      have hc0 := hc 0 (by omega)
      simpa [Addr.add] using World.cell?_spot hc0
    have hcell : ∀ j : Nat, j < len → w.cell? ⟨g, off + j, none⟩ = some (.int .u8 (v8 (gb ((zs.take len).map fun z => (BitVec.ofNat 8 z.toNat : By)) j))) := fun j hj => by
      obtain rfl := hsp (by omega)
      have h1 := hc j (by omega)
      rw [add_at] at h1
      rw [h1]
      have hjz : j < zs.length := by omega
      have hmem : zs[j]'hjz ∈ zs := List.getElem_mem hjz
      have hb := bounds_u8 (hw _ hmem)
      unfold gb v8
      rw [List.getElem?_map, List.getElem?_take_of_lt hj, List.getElem?_eq_getElem hjz, List.getD_eq_getElem?_getD, List.getElem?_eq_getElem hjz]
      simp only [Option.map_some, Option.getD_some, BitVec.toNat_ofNat]
      congr 2
      omega
    refine ⟨g, off, (zs.take len).map fun z => (BitVec.ofNat 8 z.toNat : By), hlen, by omega, hl, fun h => (by cases h), fun h => by rw [hsp h], fun h => ?_, hcell⟩
    have h1 := hcell 0 h
    rcases Nat.lt_or_ge g w.heap.size with h2 | h2
    · exact h2
    · exfalso
      simp [World.cell?, Array.getElem?_eq_none h2] at h1
end Go.Proofs.YtlicflmpakkccaaGreatDoor

/-! A part of a row; cells that are bytes. -/
namespace Go.Proofs.YtlicflmpakkccaaGreatDoor
open Go Go.ChangeShapes Go.WideShapes Go.ChangeAt Go.RowKit

section
variable {P : Program} {a : Act} {o : Oper}
theorem run_mid (ty : TypeId) (x : Operand) (g off : Nat) (cs : Array Value) (d : TypeDesc) (ho : o.op = .load ty x) (hx : a.eval x = .pointer (some ⟨g, off, none⟩)) (hu : P.underlying ty = some d) (hd : d.isRow = true) (hi : (P.info? ty).map (·.size) = some cs.size) (W : World) (hc : W.rangeAt g off cs.toList) :
    (execOp a.eval o).run P W = .ok (.value (.agg cs)) W := by
  have h := run_loadAt_mid (P := P) W g off ty cs.toList d hc hu hd (by simpa using hi)
  unfold execOp
  simp only [ho, hx, Sem.run_bind, h, Result.andThen_ok, Sem.run_pure]
end

section
variable {H : Type} {enc : TypeId × Value → H} {P : Program} {w : World} {base : Nat} {spare : Nat → Bool} {held : Bool}
theorem cells_bytes {t e : TypeId} {n fuel : Nat} {cs : List Value} {x : DataW H × List MemPlace} (hu : P.underlying t = some (.array n e)) (he : P.underlying e = some (.int .u8)) (hce : P.cellsOf e = 1) (hct : P.cellsOf t = n)
    (hf : DataW.trod enc P w base spare held fuel t cs = some x) : ∃ b : List By, cs = (bs b).toList ∧ b.length = n := by
  obtain ⟨xs, m, _, _, hlen, hl, hel⟩ := DataW.trod_array hu hf
  rw [hct] at hlen
  refine ⟨cs.map fun v => BitVec.ofNat 8 (intOf v).toNat, ?_, by simp [hlen]⟩
  apply List.ext_getElem
  · simp [bs]
  · intro j h1 h2
    have h3 := hel j (by omega)
    rw [List.getElem?_eq_getElem (by omega), hce] at h3
    obtain ⟨z, hz, _, hw⟩ := DataW.trod_int he h3
    have hb := bounds_u8 hw
    have h4 := congrArg (·[0]?) hz
    simp only [List.getElem?_take, List.getElem?_drop, Nat.mul_one, Nat.add_zero, Nat.zero_lt_one, if_true, List.getElem?_cons_zero] at h4
    rw [List.getElem?_eq_getElem h1] at h4
    have h5 := Option.some.inj h4
    simp only [bs, List.getElem_map, h5, intOf, List.map_map, Function.comp]
    have : v8 (BitVec.ofNat 8 z.toNat) = z := by
      unfold v8
      rw [BitVec.toNat_ofNat]
      omega
    rw [this]
end
end Go.Proofs.YtlicflmpakkccaaGreatDoor

/-! Slices of bytes that came in, with the form's own reach; two of them in an array. -/
namespace Go.Proofs.YtlicflmpakkccaaGreatDoor
open Go Go.ChangeShapes Go.WideShapes Go.ChangeAt Go.RowKit

set_option maxRecDepth 100000 in
theorem open_cells12 {H : Type} {enc : TypeId × Value → H} {W : World} {fuel : Nat} {cs : List Value} {x : DataW H × List MemPlace} (hf : DataW.trod enc Tryz.prog W 0 (fun _ => true) true fuel 22 cs = some x) :
    ∃ q : SL, cs = [.slice q.a q.len q.cap] ∧ q.Ok W ∧ ((∀ m ∈ x.1.weights Tryz.prog 22, m ≤ reachBytes) → q.len ≤ 140737488351232) := by
  rcases open_ints Tryz.underlying22 Tryz.underlying5 (by kernel_rfl) hf with ⟨hcs, hx⟩ | ⟨x0, l, c, zs, hcs, _, hl, hm, hz, hx, hcell, hwz⟩
  · obtain ⟨g, off, b, hr⟩ := isRowB_of (w := W) (a := none) (len := 0) (cap := 0) (.inl ⟨rfl, rfl, rfl⟩)
    exact ⟨⟨none, 0, 0, g, off, b⟩, hcs, ⟨hr.hlen, hr.hcap, hr.hnil, hr.at_, hr.hlt, hr.hcell⟩, fun _ => Nat.zero_le _⟩
  · have hz' : zs.length = c := by simpa using hz
    obtain ⟨g, off, b, hr⟩ := isRowB_of (w := W) (a := some x0) (len := l) (cap := c) (.inr ⟨_, zs, rfl, hl, hm, hz', hcell, hwz⟩)
    refine ⟨⟨some x0, l, c, g, off, b⟩, hcs, ⟨hr.hlen, hr.hcap, hr.hnil, hr.at_, hr.hlt, hr.hcell⟩, fun hw => ?_⟩
    have e : x.1 = .slice (lits .u8 (zs.take l)) (lits .u8 (zs.drop l)) := congrArg Prod.fst hx
    rw [e] at hw
    have h := hw _ (show ((lits .u8 (zs.take l) : List (DataW H)).length + (lits .u8 (zs.drop l) : List (DataW H)).length) * Tryz.prog.bytesOf 5 ∈ _ by simp [DataW.weights, Tryz.underlying22])
    have hb : Tryz.prog.bytesOf 5 = 1 := by kernel_rfl
    rw [hb] at h
    have hr47 : reachBytes = 140737488351232 := rfl
    rw [hr47] at h
    simp only [lits, List.length_map, List.length_take, List.length_drop] at h
    show l ≤ _
    omega
set_option maxRecDepth 100000 in
theorem open_sl12 {H : Type} {enc : TypeId × Value → H} {W : World} {base : Nat} {v : Value} {d : DataW H} {ps : List MemPlace} (hval : Value.okWide Tryz.prog W .any base 22 v) (h0 : DataW.Trod enc Tryz.prog W 0 (fun _ => true) true 22 v d ps) :
    ∃ q : SL, v = .slice q.a q.len q.cap ∧ q.Ok W ∧ ((∀ m ∈ d.weights Tryz.prog 22, m ≤ reachBytes) → q.len ≤ 140737488351232) := by
  obtain ⟨a0, len0, cap0, rfl⟩ := okWide_slice Tryz.underlying22 hval
  obtain ⟨fuel, hf⟩ := h0
  obtain ⟨q, hcs, h⟩ := open_cells12 hf
  refine ⟨q, ?_, h⟩
  have hcs' : [Value.slice a0 len0 cap0] = [Value.slice q.a q.len q.cap] := hcs
  exact List.head_eq_of_cons_eq hcs'
theorem weights_mem_all {H : Type} {P : Program} {e : TypeId} : ∀ {ds : List (DataW H)} {d : DataW H}, d ∈ ds → ∀ n ∈ d.weights P e, n ∈ DataW.weightsAll P e ds
  | d0 :: ds, d, hd, n, hn => by
    simp only [DataW.weightsAll, List.mem_append]
    rcases List.mem_cons.1 hd with rfl | h
    · exact .inl hn
    · exact .inr (weights_mem_all h n hn)
set_option maxRecDepth 100000 in
theorem open_two12 {H : Type} {enc : TypeId × Value → H} {W : World} {base : Nat} {v : Value} {d : DataW H} {ps : List MemPlace} (hval : Value.okWide Tryz.prog W .any base 54 v) (h0 : DataW.Trod enc Tryz.prog W 0 (fun _ => true) true 54 v d ps) :
    ∃ x y : SL, v = .agg #[.slice x.a x.len x.cap, .slice y.a y.len y.cap] ∧ x.Ok W ∧ y.Ok W ∧ ((∀ m ∈ d.weights Tryz.prog 54, m ≤ reachBytes) → x.len ≤ 140737488351232 ∧ y.len ≤ 140737488351232) := by
  unfold Value.okWide at hval
  rw [Tryz.underlying54] at hval
  obtain ⟨cs, rfl, _⟩ := hval
  obtain ⟨fuel, hf⟩ := h0
  obtain ⟨xs, n, _, hxd, hlen, hl, hel⟩ := DataW.trod_array Tryz.underlying54 hf
  have hl2 : Tryz.prog.cellsOf 54 = 2 := by kernel_rfl
  have c1 : Tryz.prog.cellsOf 22 = 1 := by kernel_rfl
  have e0 := hel 0 (by decide)
  have e1 := hel 1 (by decide)
  rw [c1, List.getElem?_eq_getElem (by omega)] at e0
  rw [c1, List.getElem?_eq_getElem (by omega)] at e1
  obtain ⟨s0, hs0, ok0, hw0⟩ := open_cells12 e0
  obtain ⟨s1, hs1, ok1, hw1⟩ := open_cells12 e1
  rw [hl2] at hlen
  have hd : d = .agg (xs.map (·.1)) := congrArg Prod.fst hxd
  have hcs : (Value.agg cs).cells.toList = [.slice s0.a s0.len s0.cap, .slice s1.a s1.len s1.cap] := by
    match hq : (Value.agg cs).cells.toList, hlen with
    | [a, b], _ =>
      rw [hq] at hs0 hs1
      simp at hs0 hs1
      rw [hs0, hs1]
  refine ⟨s0, s1, ?_, ok0, ok1, fun hw => ⟨hw0 fun m hm => hw m ?_, hw1 fun m hm => hw m ?_⟩⟩
  · congr 1
    apply Array.ext'
    exact hcs
  all_goals
    rw [hd]
    unfold DataW.weights
    rw [Tryz.underlying54]
  · exact weights_mem_all (d := (xs[0]'(by omega)).1) (List.mem_map_of_mem (List.getElem_mem (by omega))) m hm
  · exact weights_mem_all (d := (xs[1]'(by omega)).1) (List.mem_map_of_mem (List.getElem_mem (by omega))) m hm
end Go.Proofs.YtlicflmpakkccaaGreatDoor

/-! Numbers that came in. -/
namespace Go.Proofs.YtlicflmpakkccaaGreatDoor
open Go Go.ChangeShapes Go.WideShapes Go.ChangeAt Go.RowKit

set_option maxRecDepth 20000 in
theorem open_u12 {H : Type} {enc : TypeId × Value → H} {W : World} {base : Nat} {v : Value} {d : DataW H} {ps : List MemPlace} (hval : Value.okWide Tryz.prog W .any base 53 v) (h0 : DataW.Trod enc Tryz.prog W 0 (fun _ => true) true 53 v d ps) : ∃ n : Nat, v = .int .u64 (n : Int) ∧ n < 18446744073709551616 := by
  obtain ⟨a, rfl, _, _, hw⟩ := open_int Tryz.underlying53 hval h0
  have hb := bounds_u64 hw
  exact ⟨a.toNat, by rw [Int.toNat_of_nonneg hb.1], by omega⟩
end Go.Proofs.YtlicflmpakkccaaGreatDoor
