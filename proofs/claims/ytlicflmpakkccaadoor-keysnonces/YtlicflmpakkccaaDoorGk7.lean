/-
  Out of ShaLiftA, KyOpenU, ChaMid.
-/
import Derived.Test.YtlicflmpakkccaaDoorGk1
import Derived.Test.YtlicflmpakkccaaDoorRows
import Derived.ProofKit
import Derived.OpenShut
import Derived.ShutString
import Derived.ChangeOld
import Derived.Test.YtlicflmpakkccaaDoorGkChaGlob
import Derived.Deep.MidRow

/-! From what a row says of an array that came in to the words and bytes of the walks. -/
namespace Go.Proofs.YtlicflmpakkccaaDoor
open Go Go.ChangeShapes Go.WideShapes Go.ChangeAt Go.RowKit

theorem own : ownKnob Tryd.prog.godebug = none := by kernel_rfl
theorem laidOut : laidOutB Tryd.prog = true := by kernel_rfl

section
variable {H : Type} {enc : TypeId × Value → H} {P : Program} {w : World} {base : Nat} {spare : Nat → Bool} {held : Bool}

/-- An array of numbers, by its cells. -/
theorem open_array {r : Reach} {b0 : Nat} {t e : TypeId} {n : Nat} {k : IntKind} {v : Value} {d : DataW H} {ps : List MemPlace} (hu : P.underlying t = some (.array n e)) (he : P.underlying e = some (.int k)) (hce : P.cellsOf e = 1) (hct : P.cellsOf t = n)
    (hval : Value.okWide P w r b0 t v) (hd : DataW.Trod enc P w base spare held t v d ps) :
    ∃ cs : Array Value, v = .agg cs ∧ cs.size = n ∧ ∀ j, j < n → ∃ z, cs[j]? = some (.int k z) ∧ (Lit.int k z).wf = true := by
  unfold Value.okWide at hval
  rw [hu] at hval
  obtain ⟨cs, rfl, hsz, _⟩ := hval
  obtain ⟨fuel, hf⟩ := hd
  obtain ⟨xs, m, _, _, _, hl, hel⟩ := DataW.trod_array hu hf
  refine ⟨cs, rfl, by rw [hsz, hct], fun j hj => ?_⟩
  have h1 := hel j hj
  rw [List.getElem?_eq_getElem (by rw [hl]; exact hj), hce] at h1
  obtain ⟨z, hz, _, hw⟩ := DataW.trod_int he h1
  refine ⟨z, ?_, hw⟩
  have h2 := congrArg (·[0]?) hz
  simp only [List.getElem?_take, List.getElem?_drop, Nat.mul_one, Nat.add_zero, Nat.zero_lt_one, if_true, List.getElem?_cons_zero] at h2
  simpa [Value.cells] using h2

theorem open_words {r : Reach} {b0 : Nat} {t e : TypeId} {n : Nat} {v : Value} {d : DataW H} {ps : List MemPlace} (hu : P.underlying t = some (.array n e)) (he : P.underlying e = some (.int .u32)) (hce : P.cellsOf e = 1) (hct : P.cellsOf t = n)
    (hval : Value.okWide P w r b0 t v) (hd : DataW.Trod enc P w base spare held t v d ps) : ∃ s : List Wd, v = .agg (ws s) ∧ s.length = n := by
  obtain ⟨cs, rfl, hsz, hc⟩ := open_array hu he hce hct hval hd
  refine ⟨cs.toList.map fun v => wd (intOf v), ?_, by simp [hsz]⟩
  congr 1
  apply Array.ext
  · simp [ws]
  · intro j h1 h2
    obtain ⟨z, hz, hw⟩ := hc j (by omega)
    have hb := bounds_u32 hw
    rw [Array.getElem?_eq_getElem h1] at hz
    have hz' := Option.some.inj hz
    simp only [ws, List.map_map, List.getElem_toArray, List.getElem_map, Array.getElem_toList, Function.comp, hz', intOf]
    rw [u_wd z hb.1 (by omega)]

theorem open_bytes {r : Reach} {b0 : Nat} {t e : TypeId} {n : Nat} {v : Value} {d : DataW H} {ps : List MemPlace} (hu : P.underlying t = some (.array n e)) (he : P.underlying e = some (.int .u8)) (hce : P.cellsOf e = 1) (hct : P.cellsOf t = n)
    (hval : Value.okWide P w r b0 t v) (hd : DataW.Trod enc P w base spare held t v d ps) : ∃ b : List By, v = .agg (bs b) ∧ b.length = n := by
  obtain ⟨cs, rfl, hsz, hc⟩ := open_array hu he hce hct hval hd
  refine ⟨cs.toList.map fun v => BitVec.ofNat 8 (intOf v).toNat, ?_, by simp [hsz]⟩
  congr 1
  apply Array.ext
  · simp [bs]
  · intro j h1 h2
    obtain ⟨z, hz, hw⟩ := hc j (by omega)
    have hb := bounds_u8 hw
    rw [Array.getElem?_eq_getElem h1] at hz
    have hz' := Option.some.inj hz
    simp only [bs, List.map_map, List.getElem_toArray, List.getElem_map, Array.getElem_toList, Function.comp, hz', intOf]
    have : v8 (BitVec.ofNat 8 z.toNat) = z := by
      unfold v8
      rw [BitVec.toNat_ofNat]
      omega
    rw [this]
end
end Go.Proofs.YtlicflmpakkccaaDoor

/-! Numbers that came in. -/
namespace Go.Proofs.YtlicflmpakkccaaDoor
open Go Go.ChangeShapes Go.WideShapes Go.ChangeAt Go.RowKit

set_option maxRecDepth 20000 in
theorem open_u12 {H : Type} {enc : TypeId × Value → H} {W : World} {base : Nat} {v : Value} {d : DataW H} {ps : List MemPlace} (hval : Value.okWide Tryd.prog W .any base 23 v) (h0 : DataW.Trod enc Tryd.prog W 0 (fun _ => true) true 23 v d ps) : ∃ n : Nat, v = .int .u64 (n : Int) ∧ n < 18446744073709551616 := by
  obtain ⟨a, rfl, _, _, hw⟩ := open_int Tryd.underlying23 hval h0
  have hb := bounds_u64 hw
  exact ⟨a.toNat, by rw [Int.toNat_of_nonneg hb.1], by omega⟩
end Go.Proofs.YtlicflmpakkccaaDoor

/-! A part of a row; cells that are bytes. -/
namespace Go.Proofs.YtlicflmpakkccaaDoor
open Go Go.ChangeShapes Go.WideShapes Go.ChangeAt Go.RowKit

section
variable {P : Program} {a : Act} {o : Oper}
theorem run_mid (ty : TypeId) (x : Operand) (g off : Nat) (cs : Array Value) (d : TypeDesc) (ho : o.op = .load ty x) (hx : a.eval x = .pointer (some ⟨g, off, none⟩)) (hu : P.underlying ty = some d) (hd : d.isRow = true) (hi : (P.info? ty).map (·.size) = some cs.size) (W : World) (hc : W.rangeAt g off cs.toList) :
    (execOp a.eval o).run P W = .ok (.value (.agg cs)) W := by
  have h := run_loadAt_mid (P := P) W g off ty cs.toList d hc hu hd (by simpa using hi)
  unfold execOp
  simp only [ho, hx, Sem.run_bind, h, Result.andThen_ok, Sem.run_pure]
end

section
variable {H : Type} {enc : TypeId × Value → H} {P : Program} {w : World} {base : Nat} {spare : Nat → Bool} {held : Bool}
theorem cells_bytes {t e : TypeId} {n fuel : Nat} {cs : List Value} {x : DataW H × List MemPlace} (hu : P.underlying t = some (.array n e)) (he : P.underlying e = some (.int .u8)) (hce : P.cellsOf e = 1) (hct : P.cellsOf t = n)
    (hf : DataW.trod enc P w base spare held fuel t cs = some x) : ∃ b : List By, cs = (bs b).toList ∧ b.length = n := by
  obtain ⟨xs, m, _, _, hlen, hl, hel⟩ := DataW.trod_array hu hf
  rw [hct] at hlen
  refine ⟨cs.map fun v => BitVec.ofNat 8 (intOf v).toNat, ?_, by simp [hlen]⟩
  apply List.ext_getElem
  · simp [bs]
  · intro j h1 h2
    have h3 := hel j (by omega)
    rw [List.getElem?_eq_getElem (by omega), hce] at h3
    obtain ⟨z, hz, _, hw⟩ := DataW.trod_int he h3
    have hb := bounds_u8 hw
    have h4 := congrArg (·[0]?) hz
    simp only [List.getElem?_take, List.getElem?_drop, Nat.mul_one, Nat.add_zero, Nat.zero_lt_one, if_true, List.getElem?_cons_zero] at h4
    rw [List.getElem?_eq_getElem h1] at h4
    have h5 := Option.some.inj h4
    simp only [bs, List.getElem_map, h5, intOf, List.map_map, Function.comp]
    have : v8 (BitVec.ofNat 8 z.toNat) = z := by
      unfold v8
      rw [BitVec.toNat_ofNat]
      omega
    rw [this]
end
end Go.Proofs.YtlicflmpakkccaaDoor
