/-
  Bytes against the stream, in two parts; slices that are cut: single operations.
-/
import Derived.Test.YtcdmnbmniiblgaaDoorChaLaw
namespace Go.Proofs.YtcdmnbmniiblgaaDoor
open Go Go.RowKit

theorem sby_cnt (key : List By) (count : Wd) (nonce : List By) (k p : Nat) : sby key (cnt count k) nonce p = sby key count nonce (64 * k + p) := by
  unfold sby
  rw [cnt_cnt, show (64 * k + p) / 64 = k + p / 64 by omega, show (64 * k + p) % 64 = p % 64 by omega]
theorem gb_append_left (a b : List By) (p : Nat) (h : p < a.length) : gb (a ++ b) p = gb a p := by unfold gb; rw [List.getElem?_append_left h]
theorem gb_append_right (a b : List By) (p : Nat) (h : a.length ≤ p) : gb (a ++ b) p = gb b (p - a.length) := by unfold gb; rw [List.getElem?_append_right h]
theorem gb_take (a : List By) (n p : Nat) (h : p < n) : gb (a.take n) p = gb a p := by unfold gb; rw [List.getElem?_take_of_lt h]
theorem gb_drop (a : List By) (n p : Nat) : gb (a.drop n) p = gb a (n + p) := by unfold gb; rw [List.getElem?_drop]
theorem xorL_parts (key : List By) (count : Wd) (nonce : List By) (b : List By) (k : Nat) (h : 64 * k ≤ b.length) : xorL key count nonce (b.take (64 * k)) ++ xorL key (cnt count k) nonce (b.drop (64 * k)) = xorL key count nonce b := by
  have l1 : (b.take (64 * k)).length = 64 * k := by simp; omega
  have l2 : (b.drop (64 * k)).length = b.length - 64 * k := by simp
  apply gb_ext
  · rw [List.length_append, xorL_length, xorL_length, xorL_length, l1, l2]; omega
  · intro p hp
    rw [List.length_append, xorL_length, xorL_length, l1, l2] at hp
    rw [xorL_gb key count nonce b p (by omega)]
    by_cases hk : p < 64 * k
    · rw [gb_append_left _ _ _ (by rw [xorL_length, l1]; exact hk), xorL_gb _ _ _ _ _ (by rw [l1]; exact hk), gb_take _ _ _ hk]
    · rw [gb_append_right _ _ _ (by rw [xorL_length, l1]; omega), xorL_length, l1, xorL_gb _ _ _ _ _ (by rw [l2]; omega), gb_drop, sby_cnt, show 64 * k + (p - 64 * k) = p by omega]
theorem xorL_at (key : List By) (count : Wd) (nonce : List By) (b : List By) (k : Nat) (h : 64 * k < b.length) : gb (xorL key count nonce b) (64 * k) = xb (gb b (64 * k)) (gb (blockL key (cnt count k) nonce) 0) := by
  rw [xorL_gb _ _ _ _ _ h]
  unfold sby
  rw [show 64 * k / 64 = k by omega, show 64 * k % 64 = 0 by omega]
theorem u_cnt_no (count : Wd) (k : Nat) (h : u count + (k : Int) < 4294967296) : u (cnt count k) = u count + (k : Int) := by
  have := u_nn count
  rw [← u_cnt count k (by omega)]
  omega
theorem great_parts (count : Wd) (n k : Nat) (h : ¬ Great count n) (hk : 64 * k < n) : ¬ Great count (64 * k) ∧ ¬ Great (cnt count k) (n - 64 * k) := by
  unfold Great at *
  have h0 := u_nn count
  have hc := u_cnt_no count k (by omega)
  rw [hc]
  omega
theorem SL.Ok.head {w : World} {b : SL} (h : b.Ok w) (n : Nat) (hn : n ≤ b.len) (hp : 0 < b.len) : (⟨some ⟨b.g, b.off, none⟩, n, b.cap, b.g, b.off, b.b.take n⟩ : SL).Ok w := by
  have := h.hb
  have := h.hcap
  refine ⟨by simp; omega, (by show n ≤ b.cap; omega), fun e => by simp at e, fun _ => rfl, fun _ => h.lt hp, fun j hj => ?_⟩
  have hj' : j < n := hj
  show w.cell? ⟨b.g, b.off + j, none⟩ = some (.int .u8 (v8 (gb (b.b.take n) j)))
  rw [h.cell j (by omega), gb_take _ _ _ hj']
theorem SL.Ok.tail {w : World} {b : SL} (h : b.Ok w) (n : Nat) (hn : n < b.len) : (⟨some ⟨b.g, b.off + n, none⟩, b.len - n, b.cap - n, b.g, b.off + n, b.b.drop n⟩ : SL).Ok w := by
  have := h.hb
  have := h.hcap
  refine ⟨by simp; omega, (by show b.len - n ≤ b.cap - n; omega), fun e => by simp at e, fun _ => rfl, fun _ => h.lt (by omega), fun j hj => ?_⟩
  have hj' : j < b.len - n := hj
  show w.cell? ⟨b.g, b.off + n + j, none⟩ = some (.int .u8 (v8 (gb (b.b.drop n) j)))
  rw [Nat.add_assoc, h.cell (n + j) (by omega), gb_drop]

section
variable {P : Program} {a : Act} {o : Oper}
theorem run_cut_hi (t e : TypeId) (x hi : Operand) (ad : Addr) (len cap n : Nat) (ho : o.op = .slice t x none (some hi) none) (hx : a.eval x = .slice (some ad) len cap) (hh : a.eval hi = .int .i64 (n : Int)) (hu : P.underlying t = some (.slice e)) (hi1 : (P.info? e).map (·.size) = some 1) (hn : n ≤ cap) (W : World) :
    (execOp a.eval o).run P W = .ok (.value (.slice (some ad) n cap)) W := by
  have hsz : (sizeOf e).run P W = .ok 1 W := by
    cases hq : P.info? e with
    | none => simp [hq] at hi1
    | some i =>
      have : i.size = 1 := by simpa [hq] using hi1
      simp [sizeOf, typeInfo, hq, this]
  unfold execOp
  simp [ho, hx, hh, Instr.sliceAt, Instr.slice, Instr.sliceBounds, Instr.sliceBound, asIntOf, run_underlying hu, hsz, hn, Addr.add_zero']
theorem run_cut_lo (t e : TypeId) (x lo : Operand) (ad : Addr) (len cap n : Nat) (ho : o.op = .slice t x (some lo) none none) (hx : a.eval x = .slice (some ad) len cap) (hh : a.eval lo = .int .i64 (n : Int)) (hu : P.underlying t = some (.slice e)) (hi1 : (P.info? e).map (·.size) = some 1) (hn : n < len) (hc : len ≤ cap) (W : World) :
    (execOp a.eval o).run P W = .ok (.value (.slice (some (ad.add n)) (len - n) (cap - n))) W := by
  have hsz : (sizeOf e).run P W = .ok 1 W := by
    cases hq : P.info? e with
    | none => simp [hq] at hi1
    | some i =>
      have : i.size = 1 := by simpa [hq] using hi1
      simp [sizeOf, typeInfo, hq, this]
  unfold execOp
  simp [ho, hx, hh, Instr.sliceAt, Instr.slice, Instr.sliceBounds, Instr.sliceBound, asIntOf, run_underlying hu, hsz, show n ≤ len by omega, show ¬ cap = n by omega]
theorem run_cut_off (t e : TypeId) (x lo : Operand) (g off len cap n : Nat) (ho : o.op = .slice t x (some lo) none none) (hx : a.eval x = .slice (some ⟨g, off, none⟩) len cap) (hh : a.eval lo = .int .i64 (n : Int)) (hu : P.underlying t = some (.slice e)) (hi1 : (P.info? e).map (·.size) = some 1) (hn : n < len) (hc : len ≤ cap) (W : World) :
    (execOp a.eval o).run P W = .ok (.value (.slice (some ⟨g, off + n, none⟩) (len - n) (cap - n))) W := by
  have := run_cut_lo t e x lo ⟨g, off, none⟩ len cap n ho hx hh hu hi1 hn hc W
  rw [Addr.add_mid] at this
  exact this
theorem run_at (t e : TypeId) (x ix : Operand) (g off len cap j : Nat) (ho : o.op = .indexAddr t x ix) (hx : a.eval x = .slice (some ⟨g, off, none⟩) len cap) (hix : a.eval ix = .int .i64 (j : Int))
    (hu : P.underlying t = some (.slice e)) (hi : (P.info? e).map (·.size) = some 1) (hj : j < len) (W : World) : (execOp a.eval o).run P W = .ok (.value (.pointer (some ⟨g, off + j, none⟩))) W := by
  have hsz : (sizeOf e).run P W = .ok 1 W := by
    cases hq : P.info? e with
    | none => simp [hq] at hi
    | some i =>
      have : i.size = 1 := by simpa [hq] using hi
      simp [sizeOf, typeInfo, hq, this]
  unfold execOp
  simp [ho, hx, hix, Instr.indexAt, asIntOf, run_underlying hu, hj, hsz, Addr.add]
end
section
variable {P : Program} {ops : Array Oper} {Q : Exit → Act → World → Prop} {md : Region.Mode} {S : World → Prop} {fuel : Nat} {listed : Array Bool} {a : Act} {w : World}
/-- What comes up alone, reckons, and makes memory. -/
theorem H_valueW {o : Oper} (i : Nat) (v : Value) (w' : World) (hi : ops[i]? = some o) (hr : Region.ready md ops listed = [i]) (hw : Region.wanted o (yielded ops a.tmps) = true)
    (he : (execOp a.eval o).run P w = .ok (.value v) w') (h : S w' ∧ wpAnyH P md ops Q S fuel (listed.setIfInBounds i true) (a.put o.dst v) w') : wpAnyH P md ops Q S (fuel + 1) listed a w := by
  refine wpAnyH_all hr (by simp) (fun j hj => ?_)
  obtain rfl : j = i := by simpa using hj
  unfold wpOp
  simp only [hi, hw, if_true]
  refine .inl ?_
  unfold Oper.wp
  rw [he]
  exact h
end
end Go.Proofs.YtcdmnbmniiblgaaDoor
