/-
  A key, a count and a nonce in one; what the laid variables hold.
-/
import Derived.Test.YtcdmnbmniiblgaaGreatDoorChaGlob
import Derived.Test.YtcdmnbmniiblgaaGreatDoorShaLiftA
import Derived.Deep.MidRow
namespace Go.Proofs.YtcdmnbmniiblgaaGreatDoor
open Go Go.ChangeShapes Go.WideShapes Go.ChangeAt Go.RowKit

/-- The cells of a key, a count and a nonce. -/
def fromC (key : List By) (count : Wd) (nonce : List By) : Array Value := bs key ++ #[.int .u32 (u count)] ++ bs nonce
theorem fromC_size (key : List By) (count : Wd) (nonce : List By) (hk : key.length = 32) (hn : nonce.length = 12) : (fromC key count nonce).size = 45 := by simp [fromC, bs_size, hk, hn]
theorem from_key {W : World} {g : Nat} {t : TypeId} {key : List By} {count : Wd} {nonce : List By} (h : Row W g t (fromC key count nonce)) : W.rangeAt g 0 (bs key).toList := by
  intro j v hv
  rw [Nat.zero_add, h.cell, fromC]
  have hj : j < (bs key).size := by
    rcases Nat.lt_or_ge j (bs key).size with hj | hj
    · exact hj
    · rw [List.getElem?_eq_none (by simpa using hj)] at hv; cases hv
  rw [Array.append_assoc, Array.getElem?_append_left hj]
  simpa using hv
theorem from_count {W : World} {g : Nat} {t : TypeId} {key : List By} {count : Wd} {nonce : List By} (h : Row W g t (fromC key count nonce)) (hk : key.length = 32) : W.cell? ⟨g, 32, none⟩ = some (.int .u32 (u count)) := by
  rw [h.cell, fromC, Array.append_assoc, Array.getElem?_append_right (by rw [bs_size, hk]; exact Nat.le_refl _), bs_size, hk, Array.getElem?_append_left (by simp)]
  rfl
theorem from_nonce {W : World} {g : Nat} {t : TypeId} {key : List By} {count : Wd} {nonce : List By} (h : Row W g t (fromC key count nonce)) (hk : key.length = 32) : W.rangeAt g 33 (bs nonce).toList := by
  intro j v hv
  rw [h.cell, fromC, Array.getElem?_append_right (by simp [bs_size, hk])]
  simp only [Array.size_append, bs_size, hk, List.size_toArray, List.length_singleton]
  rw [show 33 + j - (32 + 1) = j by omega]
  simpa using hv

section
variable {P : Program} {a : Act} {o : Oper}
theorem run_mid (ty : TypeId) (x : Operand) (g off : Nat) (cs : Array Value) (d : TypeDesc) (ho : o.op = .load ty x) (hx : a.eval x = .pointer (some ⟨g, off, none⟩)) (hu : P.underlying ty = some d) (hd : d.isRow = true) (hi : (P.info? ty).map (·.size) = some cs.size) (W : World) (hc : W.rangeAt g off cs.toList) :
    (execOp a.eval o).run P W = .ok (.value (.agg cs)) W := by
  have h := run_loadAt_mid (P := P) W g off ty cs.toList d hc hu hd (by simpa using hi)
  unfold execOp
  simp only [ho, hx, Sem.run_bind, h, Result.andThen_ok, Sem.run_pure]
end

section
variable {H : Type} {enc : TypeId × Value → H} {P : Program} {w : World} {base : Nat} {spare : Nat → Bool} {held : Bool}
theorem cells_bytes {t e : TypeId} {n fuel : Nat} {cs : List Value} {x : DataW H × List MemPlace} (hu : P.underlying t = some (.array n e)) (he : P.underlying e = some (.int .u8)) (hce : P.cellsOf e = 1) (hct : P.cellsOf t = n)
    (hf : DataW.trod enc P w base spare held fuel t cs = some x) : ∃ b : List By, cs = (bs b).toList ∧ b.length = n := by
  obtain ⟨xs, m, _, _, hlen, hl, hel⟩ := DataW.trod_array hu hf
  rw [hct] at hlen
  refine ⟨cs.map fun v => BitVec.ofNat 8 (intOf v).toNat, ?_, by simp [hlen]⟩
  apply List.ext_getElem
  · simp [bs]
  · intro j h1 h2
    have h3 := hel j (by omega)
    rw [List.getElem?_eq_getElem (by omega), hce] at h3
    obtain ⟨z, hz, _, hw⟩ := DataW.trod_int he h3
    have hb := bounds_u8 hw
    have h4 := congrArg (·[0]?) hz
    simp only [List.getElem?_take, List.getElem?_drop, Nat.mul_one, Nat.add_zero, Nat.zero_lt_one, if_true, List.getElem?_cons_zero] at h4
    rw [List.getElem?_eq_getElem h1] at h4
    have h5 := Option.some.inj h4
    simp only [bs, List.getElem_map, h5, intOf, List.map_map, Function.comp]
    have : v8 (BitVec.ofNat 8 z.toNat) = z := by
      unfold v8
      rw [BitVec.toNat_ofNat]
      omega
    rw [this]
end
set_option maxRecDepth 100000 in
theorem open_from {H : Type} {enc : TypeId × Value → H} {W : World} {base : Nat} {v : Value} {d : DataW H} {ps : List MemPlace} (hval : Value.okWide Tryz.prog W .any base 26 v) (h0 : DataW.Trod enc Tryz.prog W 0 (fun _ => true) true 26 v d ps) :
    ∃ (key : List By) (count : Wd) (nonce : List By), v = .agg (fromC key count nonce) ∧ key.length = 32 ∧ nonce.length = 12 := by
  unfold Value.okWide at hval
  rw [Tryz.underlying26] at hval
  obtain ⟨cs, rfl, _⟩ := hval
  obtain ⟨fuel, hf⟩ := h0
  obtain ⟨xs, n, _, _, hlen, hxl, hfs⟩ := DataW.trod_struct Tryz.underlying26 hf
  have hl3 : Tryz.prog.cellsOf 26 = 45 := by kernel_rfl
  have c0 : Tryz.prog.cellsOf 22 = 32 := by kernel_rfl
  have c1 : Tryz.prog.cellsOf 23 = 1 := by kernel_rfl
  have c2 : Tryz.prog.cellsOf 24 = 12 := by kernel_rfl
  have e0 : DataW.trod enc Tryz.prog W 0 (fun _ => true) true n 22 (List.take (Tryz.prog.cellsOf 22) (List.drop 0 _)) = xs[0]? := hfs 0 _ rfl
  have e1 : DataW.trod enc Tryz.prog W 0 (fun _ => true) true n 23 (List.take (Tryz.prog.cellsOf 23) (List.drop 32 _)) = xs[1]? := hfs 1 _ rfl
  have e2 : DataW.trod enc Tryz.prog W 0 (fun _ => true) true n 24 (List.take (Tryz.prog.cellsOf 24) (List.drop 33 _)) = xs[2]? := hfs 2 _ rfl
  have hx3 : xs.length = 3 := hxl
  rw [List.getElem?_eq_getElem (by omega)] at e0
  rw [c1, List.getElem?_eq_getElem (by omega)] at e1
  rw [List.getElem?_eq_getElem (by omega)] at e2
  obtain ⟨key, hkey, hk⟩ := cells_bytes Tryz.underlying22 Tryz.underlying5 (by kernel_rfl) c0 e0
  obtain ⟨nonce, hnon, hn⟩ := cells_bytes Tryz.underlying24 Tryz.underlying5 (by kernel_rfl) c2 e2
  obtain ⟨z, hz, _, hw⟩ := DataW.trod_int Tryz.underlying23 e1
  have hb := bounds_u32 hw
  refine ⟨key, wd z, nonce, ?_, hk, hn⟩
  rw [hl3] at hlen
  rw [c0, List.drop_zero] at hkey
  rw [c2] at hnon
  congr 1
  apply Array.ext'
  show cs.toList = _
  have hlen : cs.toList.length = 45 := hlen
  have hkey : cs.toList.take 32 = (bs key).toList := hkey
  have hz : (cs.toList.drop 32).take 1 = [.int .u32 z] := hz
  have hnon : (cs.toList.drop 33).take 12 = (bs nonce).toList := hnon
  have hsplit : ∀ l : List Value, l.length = 45 → l = l.take 32 ++ (l.drop 32).take 1 ++ (l.drop 33).take 12 := by
    intro l hl
    have a1 : (l.drop 33).take 12 = l.drop 33 := List.take_of_length_le (by simp; omega)
    have a2 : l.drop 32 = (l.drop 32).take 1 ++ (l.drop 33) := by
      have := (List.take_append_drop 1 (l.drop 32)).symm
      rw [List.drop_drop] at this
      exact this
    rw [a1, List.append_assoc, ← a2, List.take_append_drop]
  rw [hsplit _ hlen, hkey, hz, hnon]
  simp [fromC, u_wd z hb.1 (by omega)]
end Go.Proofs.YtcdmnbmniiblgaaGreatDoor
