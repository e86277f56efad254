/-
  Out of ShaLiftA, ChaMid, PlLawB.
-/
import Derived.Test.YtffokggejbmadaaGreatDoorGz1
import Derived.Test.YtffokggejbmadaaGreatDoorRows
import Derived.ProofKit
import Derived.OpenShut
import Derived.ShutString
import Derived.ChangeOld
import Derived.Test.YtffokggejbmadaaGreatDoorGz4
import Derived.Deep.MidRow
import Derived.Deep.QuietTactic
import Derived.BigQuiet

/-! From what a row says of an array that came in to the words and bytes of the walks. -/
namespace Go.Proofs.YtffokggejbmadaaGreatDoor
open Go Go.ChangeShapes Go.WideShapes Go.ChangeAt Go.RowKit

theorem own : ownKnob Tryz.prog.godebug = none := by kernel_rfl
theorem laidOut : laidOutB Tryz.prog = true := by kernel_rfl

section
variable {H : Type} {enc : TypeId × Value → H} {P : Program} {w : World} {base : Nat} {spare : Nat → Bool} {held : Bool}

/-- An array of numbers, by its cells. -/
theorem open_array {r : Reach} {b0 : Nat} {t e : TypeId} {n : Nat} {k : IntKind} {v : Value} {d : DataW H} {ps : List MemPlace} (hu : P.underlying t = some (.array n e)) (he : P.underlying e = some (.int k)) (hce : P.cellsOf e = 1) (hct : P.cellsOf t = n)
    (hval : Value.okWide P w r b0 t v) (hd : DataW.Trod enc P w base spare held t v d ps) :
    ∃ cs : Array Value, v = .agg cs ∧ cs.size = n ∧ ∀ j, j < n → ∃ z, cs[j]? = some (.int k z) ∧ (Lit.int k z).wf = true := by
  unfold Value.okWide at hval
  rw [hu] at hval
  obtain ⟨cs, rfl, hsz, _⟩ := hval
  obtain ⟨fuel, hf⟩ := hd
  obtain ⟨xs, m, _, _, _, hl, hel⟩ := DataW.trod_array hu hf
  refine ⟨cs, rfl, by rw [hsz, hct], fun j hj => ?_⟩
  have h1 := hel j hj
  rw [List.getElem?_eq_getElem (by rw [hl]; exact hj), hce] at h1
  obtain ⟨z, hz, _, hw⟩ := DataW.trod_int he h1
  refine ⟨z, ?_, hw⟩
  have h2 := congrArg (·[0]?) hz
  simp only [List.getElem?_take, List.getElem?_drop, Nat.mul_one, Nat.add_zero, Nat.zero_lt_one, if_true, List.getElem?_cons_zero] at h2
  simpa [Value.cells] using h2

theorem open_words {r : Reach} {b0 : Nat} {t e : TypeId} {n : Nat} {v : Value} {d : DataW H} {ps : List MemPlace} (hu : P.underlying t = some (.array n e)) (he : P.underlying e = some (.int .u32)) (hce : P.cellsOf e = 1) (hct : P.cellsOf t = n)
    (hval : Value.okWide P w r b0 t v) (hd : DataW.Trod enc P w base spare held t v d ps) : ∃ s : List Wd, v = .agg (ws s) ∧ s.length = n := by
  obtain ⟨cs, rfl, hsz, hc⟩ := open_array hu he hce hct hval hd
  refine ⟨cs.toList.map fun v => wd (intOf v), ?_, by simp [hsz]⟩
  congr 1
  apply Array.ext
  · simp [ws]
  · intro j h1 h2
    obtain ⟨z, hz, hw⟩ := hc j (by omega)
    have hb := bounds_u32 hw
    rw [Array.getElem?_eq_getElem h1] at hz
    have hz' := Option.some.inj hz
    simp only [ws, List.map_map, List.getElem_toArray, List.getElem_map, Array.getElem_toList, Function.comp, hz', intOf]
    rw [u_wd z hb.1 (by omega)]

theorem open_bytes {r : Reach} {b0 : Nat} {t e : TypeId} {n : Nat} {v : Value} {d : DataW H} {ps : List MemPlace} (hu : P.underlying t = some (.array n e)) (he : P.underlying e = some (.int .u8)) (hce : P.cellsOf e = 1) (hct : P.cellsOf t = n)
    (hval : Value.okWide P w r b0 t v) (hd : DataW.Trod enc P w base spare held t v d ps) : ∃ b : List By, v = .agg (bs b) ∧ b.length = n := by
  obtain ⟨cs, rfl, hsz, hc⟩ := open_array hu he hce hct hval hd
  refine ⟨cs.toList.map fun v => BitVec.ofNat 8 (intOf v).toNat, ?_, by simp [hsz]⟩
  congr 1
  apply Array.ext
  · simp [bs]
  · intro j h1 h2
    obtain ⟨z, hz, hw⟩ := hc j (by omega)
    have hb := bounds_u8 hw
    rw [Array.getElem?_eq_getElem h1] at hz
    have hz' := Option.some.inj hz
    simp only [bs, List.map_map, List.getElem_toArray, List.getElem_map, Array.getElem_toList, Function.comp, hz', intOf]
    have : v8 (BitVec.ofNat 8 z.toNat) = z := by
      unfold v8
      rw [BitVec.toNat_ofNat]
      omega
    rw [this]
end
end Go.Proofs.YtffokggejbmadaaGreatDoor

/-! A part of a row; cells that are bytes. -/
namespace Go.Proofs.YtffokggejbmadaaGreatDoor
open Go Go.ChangeShapes Go.WideShapes Go.ChangeAt Go.RowKit

section
variable {P : Program} {a : Act} {o : Oper}
theorem run_mid (ty : TypeId) (x : Operand) (g off : Nat) (cs : Array Value) (d : TypeDesc) (ho : o.op = .load ty x) (hx : a.eval x = .pointer (some ⟨g, off, none⟩)) (hu : P.underlying ty = some d) (hd : d.isRow = true) (hi : (P.info? ty).map (·.size) = some cs.size) (W : World) (hc : W.rangeAt g off cs.toList) :
    (execOp a.eval o).run P W = .ok (.value (.agg cs)) W := by
  have h := run_loadAt_mid (P := P) W g off ty cs.toList d hc hu hd (by simpa using hi)
  unfold execOp
  simp only [ho, hx, Sem.run_bind, h, Result.andThen_ok, Sem.run_pure]
end

section
variable {H : Type} {enc : TypeId × Value → H} {P : Program} {w : World} {base : Nat} {spare : Nat → Bool} {held : Bool}
theorem cells_bytes {t e : TypeId} {n fuel : Nat} {cs : List Value} {x : DataW H × List MemPlace} (hu : P.underlying t = some (.array n e)) (he : P.underlying e = some (.int .u8)) (hce : P.cellsOf e = 1) (hct : P.cellsOf t = n)
    (hf : DataW.trod enc P w base spare held fuel t cs = some x) : ∃ b : List By, cs = (bs b).toList ∧ b.length = n := by
  obtain ⟨xs, m, _, _, hlen, hl, hel⟩ := DataW.trod_array hu hf
  rw [hct] at hlen
  refine ⟨cs.map fun v => BitVec.ofNat 8 (intOf v).toNat, ?_, by simp [hlen]⟩
  apply List.ext_getElem
  · simp [bs]
  · intro j h1 h2
    have h3 := hel j (by omega)
    rw [List.getElem?_eq_getElem (by omega), hce] at h3
    obtain ⟨z, hz, _, hw⟩ := DataW.trod_int he h3
    have hb := bounds_u8 hw
    have h4 := congrArg (·[0]?) hz
    simp only [List.getElem?_take, List.getElem?_drop, Nat.mul_one, Nat.add_zero, Nat.zero_lt_one, if_true, List.getElem?_cons_zero] at h4
    rw [List.getElem?_eq_getElem h1] at h4
    have h5 := Option.some.inj h4
    simp only [bs, List.getElem_map, h5, intOf, List.map_map, Function.comp]
    have : v8 (BitVec.ofNat 8 z.toNat) = z := by
      unfold v8
      rw [BitVec.toNat_ofNat]
      omega
    rw [this]
end
end Go.Proofs.YtffokggejbmadaaGreatDoor

/-! A row made in the walk; a tag's length; sums of bytes; what a row of its own looks like. -/
namespace Go.Proofs.YtffokggejbmadaaGreatDoor
open Go Go.RowKit

theorem alloc_row {P : Program} {ops : Array Oper} {rest : List Oper} {o : Oper} {a : Act} {w : World} {Q : Exit → Act → World → Prop} (hgd : o.guard = none) (t : TypeId) (ho : o.op = .alloc t) (cs : Array Value) (hz : (P.info? t).map (·.zero) = some (some (.agg cs)))
    (h : wpList P ops Q rest (a.put o.dst (.pointer (some ⟨w.heap.size, 0, none⟩))) (w.alloc (.cells cs t))) : wpList P ops Q (o :: rest) a w :=
  wpList_plain hgd fun _ hK => by
    unfold Oper.wp
    rw [exec_alloc_row t ho cs hz]
    exact hK _ _ h
theorem tagL_length (key b : List By) : (tagL key b).length = 16 := by16_length _
/-! ### The law's sum -/
theorem byte_stable (v m : Nat) {j k : Nat} (h : j < k) : (v + m * 256 ^ k) / 256 ^ j % 256 = v / 256 ^ j % 256 := by
  obtain ⟨d, rfl⟩ : ∃ d, k = j + (d + 1) := ⟨k - j - 1, by omega⟩
  rw [Nat.pow_add, Nat.pow_succ, show m * (256 ^ j * (256 ^ d * 256)) = 256 ^ j * (m * 256 ^ d * 256) by simp only [Nat.mul_left_comm, Nat.mul_assoc], Nat.add_mul_div_left _ _ (Nat.pow_pos (by decide)), Nat.add_mul_mod_self_right]
theorem byteAt_stable (v m : Nat) {j k : Nat} (h : j < k) : byteAt (v + m * 256 ^ k) j = byteAt v j := by
  unfold byteAt
  apply BitVec.eq_of_toNat_eq
  rw [BitVec.toNat_ofNat, BitVec.toNat_ofNat]
  exact byte_stable v m h
/-- The sum of the first k bytes of two numbers. -/
def sumK (a b : List By) (k : Nat) : Nat := leK a k + leK b k
theorem sumK_succ (a b : List By) (k : Nat) : sumK a b (k + 1) = sumK a b k + ((gb a k).toNat + (gb b k).toNat) * 256 ^ k := by
  unfold sumK
  rw [show leK a (k + 1) = leK a k + (gb a k).toNat * 256 ^ k from rfl, show leK b (k + 1) = leK b k + (gb b k).toNat * 256 ^ k from rfl, Nat.add_mul]
  omega
theorem sumK_div (a b : List By) (k : Nat) : sumK a b (k + 1) / 256 ^ k = sumK a b k / 256 ^ k + ((gb a k).toNat + (gb b k).toNat) := by
  rw [sumK_succ, Nat.mul_comm ((gb a k).toNat + (gb b k).toNat), Nat.add_mul_div_left _ _ (Nat.pow_pos (by decide))]
theorem sumK_more (a b : List By) (k : Nat) : sumK a b k / 256 ^ k ≤ 1 := by
  have h1 := leK_lt a k
  have h2 := leK_lt b k
  have : sumK a b k / 256 ^ k < 2 := by
    rw [Nat.div_lt_iff_lt_mul (Nat.pow_pos (by decide))]
    unfold sumK
    omega
  omega

/-! ### The law's repeat -/
theorem own_shape {w : World} {base n : Nat} {e : TypeId} {v : Value} {xs : List Value} (h : w.ownsRow base e 1 v n xs) : ∃ a c, v = .slice a n c := by
  rcases h.2 with ⟨rfl, rfl⟩ | ⟨g, c, cur, rfl, _⟩
  · exact ⟨_, _, rfl⟩
  · exact ⟨_, _, rfl⟩
end Go.Proofs.YtffokggejbmadaaGreatDoor
