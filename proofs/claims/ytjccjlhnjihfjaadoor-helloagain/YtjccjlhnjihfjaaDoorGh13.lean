/-
  Out of ShaLiftA, ShaLiftS, HeOpen, HeLaid.
-/
import Derived.Test.YtjccjlhnjihfjaaDoorGh1
import Derived.Test.YtjccjlhnjihfjaaDoorRows
import Derived.ProofKit
import Derived.OpenShut
import Derived.ShutString
import Derived.ChangeOld
import Derived.Test.YtjccjlhnjihfjaaDoorGh2
import Derived.Test.YtjccjlhnjihfjaaDoorGhHeCells
import Derived.SizedLaws
import Derived.Test.YtjccjlhnjihfjaaDoorGh9
import Derived.Test.YtjccjlhnjihfjaaDoorTie
import Derived.Test.YtjccjlhnjihfjaaDoorCards
import Derived.LaidMore
import Derived.LaidHandle
import Derived.Stop.Joined
import Derived.Stop.LaidErr
import Derived.Lib.LaidTab
import Derived.SevenTiedAt

/-! From what a row says of an array that came in to the words and bytes of the walks. -/
namespace Go.Proofs.YtjccjlhnjihfjaaDoor
open Go Go.ChangeShapes Go.WideShapes Go.ChangeAt Go.RowKit

theorem own : ownKnob Tryd.prog.godebug = none := by kernel_rfl
theorem laidOut : laidOutB Tryd.prog = true := by kernel_rfl

section
variable {H : Type} {enc : TypeId × Value → H} {P : Program} {w : World} {base : Nat} {spare : Nat → Bool} {held : Bool}

end
end Go.Proofs.YtjccjlhnjihfjaaDoor

/-! A slice of bytes that came in, as the walks ask it. -/
namespace Go.Proofs.YtjccjlhnjihfjaaDoor
open Go Go.ChangeShapes Go.WideShapes Go.ChangeAt Go.RowKit

structure IsRowB (w : World) (a : Option Addr) (len cap g off : Nat) (b : List By) : Prop where
  hlen : b.length = len
  hmost : len ≤ 9223372036854775807
  hcap : len ≤ cap
  hnil : a = none → len = 0 ∧ cap = 0
  at_ : 0 < len → a = some ⟨g, off, none⟩
  hlt : 0 < len → g < w.heap.size
  hcell : ∀ j : Nat, j < len → w.cell? ⟨g, off + j, none⟩ = some (.int .u8 (v8 (gb b j)))

theorem isRowB_of {w : World} {a : Option Addr} {len cap : Nat} (h : (a = none ∧ len = 0 ∧ cap = 0) ∨ ∃ (x : Addr) (zs : List Int), a = some x ∧ len ≤ cap ∧ cap ≤ maxLen ∧ zs.length = cap ∧ (∀ i, i < zs.length → w.cell? (x.add i) = some (.int .u8 (zs.getD i 0))) ∧ ∀ n ∈ zs, (Lit.int .u8 n).wf = true) :
    ∃ g off b, IsRowB w a len cap g off b := by
  rcases h with ⟨rfl, rfl, rfl⟩ | ⟨x, zs, rfl, hl, hm, hz, hc, hw⟩
  · exact ⟨0, 0, [], rfl, by omega, Nat.le_refl _, fun _ => ⟨rfl, rfl⟩, fun h => by omega, fun h => by omega, fun j h => by omega⟩
  · unfold maxLen at hm
    obtain ⟨g, off, spot⟩ := x
    have hlen : ((zs.take len).map fun z => (BitVec.ofNat 8 z.toNat : By)).length = len := by rw [List.length_map, List.length_take]; omega
    have hsp : 0 < len → spot = none := fun h0 => by
      have hc0 := hc 0 (by omega)
      simpa [Addr.add] using World.cell?_spot hc0
    have hcell : ∀ j : Nat, j < len → w.cell? ⟨g, off + j, none⟩ = some (.int .u8 (v8 (gb ((zs.take len).map fun z => (BitVec.ofNat 8 z.toNat : By)) j))) := fun j hj => by
      obtain rfl := hsp (by omega)
      have h1 := hc j (by omega)
      rw [add_at] at h1
      rw [h1]
      have hjz : j < zs.length := by omega
      have hmem : zs[j]'hjz ∈ zs := List.getElem_mem hjz
      have hb := bounds_u8 (hw _ hmem)
      unfold gb v8
      rw [List.getElem?_map, List.getElem?_take_of_lt hj, List.getElem?_eq_getElem hjz, List.getD_eq_getElem?_getD, List.getElem?_eq_getElem hjz]
      simp only [Option.map_some, Option.getD_some, BitVec.toNat_ofNat]
      congr 2
      omega
    refine ⟨g, off, (zs.take len).map fun z => (BitVec.ofNat 8 z.toNat : By), hlen, by omega, hl, fun h => (by cases h), fun h => by rw [hsp h], fun h => ?_, hcell⟩
    have h1 := hcell 0 h
    rcases Nat.lt_or_ge g w.heap.size with h2 | h2
    · exact h2
    · exfalso
      simp [World.cell?, Array.getElem?_eq_none h2] at h1
end Go.Proofs.YtjccjlhnjihfjaaDoor

/-! A greeting that came in. -/
namespace Go.Proofs.YtjccjlhnjihfjaaDoor
open Go Go.ChangeShapes Go.WideShapes Go.ChangeAt Go.RowKit

section
variable {H : Type} {enc : TypeId × Value → H} {P : Program} {w : World} {base : Nat} {spare : Nat → Bool} {held : Bool}
theorem cells_bytesH {t e : TypeId} {n fuel : Nat} {cs : List Value} {x : DataW H × List MemPlace} (hu : P.underlying t = some (.array n e)) (he : P.underlying e = some (.int .u8)) (hce : P.cellsOf e = 1) (hct : P.cellsOf t = n)
    (hf : DataW.trod enc P w base spare held fuel t cs = some x) : ∃ b : List By, cs = (bs b).toList ∧ b.length = n := by
  obtain ⟨xs, m, _, _, hlen, hl, hel⟩ := DataW.trod_array hu hf
  rw [hct] at hlen
  refine ⟨cs.map fun v => BitVec.ofNat 8 (intOf v).toNat, ?_, by simp [hlen]⟩
  apply List.ext_getElem
  · simp [bs]
  · intro j h1 h2
    have h3 := hel j (by omega)
    rw [List.getElem?_eq_getElem (by omega), hce] at h3
    obtain ⟨z, hz, _, hw⟩ := DataW.trod_int he h3
    have hb := bounds_u8 hw
    have h4 := congrArg (·[0]?) hz
    simp only [List.getElem?_take, List.getElem?_drop, Nat.mul_one, Nat.add_zero, Nat.zero_lt_one, if_true, List.getElem?_cons_zero] at h4
    rw [List.getElem?_eq_getElem h1] at h4
    have h5 := Option.some.inj h4
    simp only [bs, List.getElem_map, h5, intOf, List.map_map, Function.comp]
    have : v8 (BitVec.ofNat 8 z.toNat) = z := by
      unfold v8
      rw [BitVec.toNat_ofNat]
      omega
    rw [this]
end
set_option maxRecDepth 100000 in
theorem open_cellsH {H : Type} {enc : TypeId × Value → H} {W : World} {fuel : Nat} {cs : List Value} {x : DataW H × List MemPlace} (hf : DataW.trod enc Tryd.prog W 0 (fun _ => true) true fuel 28 cs = some x) :
    ∃ q : SL, cs = [.slice q.a q.len q.cap] ∧ q.Ok W ∧ ((∀ m ∈ x.1.weights Tryd.prog 28, m ≤ reachBytes) → q.len ≤ 140737488351232) := by
  rcases open_ints Tryd.underlying28 Tryd.underlying5 (by kernel_rfl) hf with ⟨hcs, hx⟩ | ⟨x0, l, c, zs, hcs, _, hl, hm, hz, hx, hcell, hwz⟩
  · obtain ⟨g, off, b, hr⟩ := isRowB_of (w := W) (a := none) (len := 0) (cap := 0) (.inl ⟨rfl, rfl, rfl⟩)
    exact ⟨⟨none, 0, 0, g, off, b⟩, hcs, ⟨hr.hlen, hr.hcap, hr.hnil, hr.at_, hr.hlt, hr.hcell⟩, fun _ => Nat.zero_le _⟩
  · have hz' : zs.length = c := by simpa using hz
    obtain ⟨g, off, b, hr⟩ := isRowB_of (w := W) (a := some x0) (len := l) (cap := c) (.inr ⟨_, zs, rfl, hl, hm, hz', hcell, hwz⟩)
    refine ⟨⟨some x0, l, c, g, off, b⟩, hcs, ⟨hr.hlen, hr.hcap, hr.hnil, hr.at_, hr.hlt, hr.hcell⟩, fun hw => ?_⟩
    have e : x.1 = .slice (lits .u8 (zs.take l)) (lits .u8 (zs.drop l)) := congrArg Prod.fst hx
    rw [e] at hw
    have h := hw _ (show ((lits .u8 (zs.take l) : List (DataW H)).length + (lits .u8 (zs.drop l) : List (DataW H)).length) * Tryd.prog.bytesOf 5 ∈ _ by simp [DataW.weights, Tryd.underlying28])
    have hb : Tryd.prog.bytesOf 5 = 1 := by kernel_rfl
    rw [hb] at h
    have hr47 : reachBytes = 140737488351232 := rfl
    rw [hr47] at h
    simp only [lits, List.length_map, List.length_take, List.length_drop] at h
    show l ≤ _
    omega
set_option maxRecDepth 100000 in
theorem open_slH {H : Type} {enc : TypeId × Value → H} {W : World} {base : Nat} {v : Value} {d : DataW H} {ps : List MemPlace} (hval : Value.okWide Tryd.prog W .any base 28 v) (h0 : DataW.Trod enc Tryd.prog W 0 (fun _ => true) true 28 v d ps) :
    ∃ q : SL, v = .slice q.a q.len q.cap ∧ q.Ok W ∧ ((∀ m ∈ d.weights Tryd.prog 28, m ≤ reachBytes) → q.len ≤ 140737488351232) := by
  obtain ⟨a0, len0, cap0, rfl⟩ := okWide_slice Tryd.underlying28 hval
  obtain ⟨fuel, hf⟩ := h0
  obtain ⟨q, hcs, h⟩ := open_cellsH hf
  refine ⟨q, ?_, h⟩
  have hcs' : [Value.slice a0 len0 cap0] = [Value.slice q.a q.len q.cap] := hcs
  exact List.head_eq_of_cons_eq hcs'
section
variable {H : Type} {enc : TypeId × Value → H} {W : World}
theorem open_numH {fuel : Nat} {cs : List Value} {x : DataW H × List MemPlace} (hf : DataW.trod enc Tryd.prog W 0 (fun _ => true) true fuel 24 cs = some x) : ∃ n : Nat, cs = [.int .u64 (n : Int)] ∧ n < 18446744073709551616 := by
  obtain ⟨n, h1, _, h3⟩ := DataW.trod_int Tryd.underlying24 hf
  have hb := bounds_u64 h3
  exact ⟨n.toNat, by rw [h1, Int.toNat_of_nonneg hb.1], by omega⟩
theorem take_oneH {l : List Value} {j : Nat} {a : Value} (h : (l.drop j).take 1 = [a]) : l[j]? = some a := by
  have h2 := congrArg (·[0]?) h
  simpa [List.getElem?_take, List.getElem?_drop] using h2
set_option maxRecDepth 100000 in
theorem open_limsH {fuel : Nat} {cs : List Value} {x : DataW H × List MemPlace} (hf : DataW.trod enc Tryd.prog W 0 (fun _ => true) true fuel 25 cs = some x) :
    ∃ l : He.Q4, cs = qv l ∧ l.1 < 18446744073709551616 ∧ l.2.1 < 18446744073709551616 ∧ l.2.2.1 < 18446744073709551616 ∧ l.2.2.2 < 18446744073709551616 := by
  obtain ⟨xs, m, _, _, hlen, hl, hel⟩ := DataW.trod_array Tryd.underlying25 hf
  have c1 : Tryd.prog.cellsOf 24 = 1 := by kernel_rfl
  have c4 : Tryd.prog.cellsOf 25 = 4 := by kernel_rfl
  rw [c4] at hlen
  have e0 := hel 0 (by decide)
  have e1 := hel 1 (by decide)
  have e2 := hel 2 (by decide)
  have e3 := hel 3 (by decide)
  rw [c1, List.getElem?_eq_getElem (by rw [hl]; decide)] at e0
  rw [c1, List.getElem?_eq_getElem (by rw [hl]; decide)] at e1
  rw [c1, List.getElem?_eq_getElem (by rw [hl]; decide)] at e2
  rw [c1, List.getElem?_eq_getElem (by rw [hl]; decide)] at e3
  obtain ⟨n0, h0, b0⟩ := open_numH e0
  obtain ⟨n1, h1, b1⟩ := open_numH e1
  obtain ⟨n2, h2, b2⟩ := open_numH e2
  obtain ⟨n3, h3, b3⟩ := open_numH e3
  refine ⟨(n0, n1, n2, n3), ?_, b0, b1, b2, b3⟩
  match cs, hlen with
  | [a, b, c, d], _ =>
    have k0 := take_oneH h0
    have k1 := take_oneH h1
    have k2 := take_oneH h2
    have k3 := take_oneH h3
    simp at k0 k1 k2 k3
    rw [k0, k1, k2, k3]
set_option maxRecDepth 100000 in
theorem open_heC {fuel : Nat} {cs : List Value} {x : DataW H × List MemPlace} (hf : DataW.trod enc Tryd.prog W 0 (fun _ => true) true fuel 27 cs = some x) :
    ∃ h : He.H, cs = heL h ∧ h.Fine ∧ h.l.1 < 18446744073709551616 ∧ h.l.2.1 < 18446744073709551616 ∧ h.l.2.2.1 < 18446744073709551616 ∧ h.l.2.2.2 < 18446744073709551616 := by
  obtain ⟨xs, n, _, hxd, hlen, hxl, hfs⟩ := DataW.trod_struct Tryd.underlying27 hf
  have hl : Tryd.prog.cellsOf 27 = 69 := by kernel_rfl
  rw [hl] at hlen
  have hx : xs.length = 4 := hxl
  have c0 : Tryd.prog.cellsOf 22 = 1 := by kernel_rfl
  have e0 : DataW.trod enc Tryd.prog W 0 (fun _ => true) true n 22 (List.take (Tryd.prog.cellsOf 22) (List.drop 0 _)) = xs[0]? := hfs 0 _ rfl
  rw [c0, List.getElem?_eq_getElem (by omega)] at e0
  have c1 : Tryd.prog.cellsOf 23 = 32 := by kernel_rfl
  have e1 : DataW.trod enc Tryd.prog W 0 (fun _ => true) true n 23 (List.take (Tryd.prog.cellsOf 23) (List.drop 1 _)) = xs[1]? := hfs 1 _ rfl
  rw [c1, List.getElem?_eq_getElem (by omega)] at e1
  have c2 : Tryd.prog.cellsOf 25 = 4 := by kernel_rfl
  have e2 : DataW.trod enc Tryd.prog W 0 (fun _ => true) true n 25 (List.take (Tryd.prog.cellsOf 25) (List.drop 33 _)) = xs[2]? := hfs 2 _ rfl
  rw [c2, List.getElem?_eq_getElem (by omega)] at e2
  have e3 : DataW.trod enc Tryd.prog W 0 (fun _ => true) true n 23 (List.take (Tryd.prog.cellsOf 23) (List.drop 37 _)) = xs[3]? := hfs 3 _ rfl
  rw [c1, List.getElem?_eq_getElem (by omega)] at e3
  obtain ⟨z, h0, _, hz⟩ := DataW.trod_int Tryd.underlying22 e0
  have hb := bounds_u8 hz
  obtain ⟨nn, h1, l1⟩ := cells_bytesH Tryd.underlying23 Tryd.underlying5 (by kernel_rfl) c1 e1
  obtain ⟨l, h2, q0, q1, q2, q3⟩ := open_limsH e2
  obtain ⟨pf, h3, l3⟩ := cells_bytesH Tryd.underlying23 Tryd.underlying5 (by kernel_rfl) c1 e3
  refine ⟨⟨BitVec.ofNat 8 z.toNat, nn, l, pf⟩, ?_, ⟨l1, l3⟩, q0, q1, q2, q3⟩
  have hk : v8 (BitVec.ofNat 8 z.toNat) = z := by
    unfold v8
    rw [BitVec.toNat_ofNat]
    omega
  have s0 : cs = cs.take 1 ++ cs.drop 1 := (List.take_append_drop 1 cs).symm
  have s1 : cs.drop 1 = (cs.drop 1).take 32 ++ cs.drop 33 := by
    conv => lhs; rw [← List.take_append_drop 32 (cs.drop 1)]
    rw [List.drop_drop]
  have s2 : cs.drop 33 = (cs.drop 33).take 4 ++ cs.drop 37 := by
    conv => lhs; rw [← List.take_append_drop 4 (cs.drop 33)]
    rw [List.drop_drop]
  have s3 : cs.drop 37 = (cs.drop 37).take 32 := by
    rw [List.take_of_length_le]
    rw [List.length_drop]
    omega
  rw [List.drop_zero] at h0
  rw [s0, s1, s2, s3, h0, h1, h2, h3]
  unfold heL
  rw [hk]
  simp [bs, vb]
set_option maxRecDepth 100000 in
theorem open_he {base : Nat} {v : Value} {d : DataW H} {ps : List MemPlace} (hval : Value.okWide Tryd.prog W .any base 27 v) (h0 : DataW.Trod enc Tryd.prog W 0 (fun _ => true) true 27 v d ps) :
    ∃ h : He.H, v = .agg (heC h) ∧ h.Fine ∧ h.l.1 < 18446744073709551616 ∧ h.l.2.1 < 18446744073709551616 ∧ h.l.2.2.1 < 18446744073709551616 ∧ h.l.2.2.2 < 18446744073709551616 := by
  unfold Value.okWide at hval
  rw [Tryd.underlying27] at hval
  obtain ⟨cs, rfl, _⟩ := hval
  obtain ⟨fuel, hf⟩ := h0
  obtain ⟨h, e, r⟩ := open_heC hf
  refine ⟨h, ?_, r⟩
  congr 1
  apply Array.ext'
  exact e
end
end Go.Proofs.YtjccjlhnjihfjaaDoor

/-! What a row says of the laid variables, at the door and behind it. -/
namespace Go.Proofs.YtjccjlhnjihfjaaDoor
open Go Go.ChangeShapes Go.WideShapes Go.ChangeAt Go.RowKit

abbrev laidH1 : List (String × DataW Unit) := [("mailcoach/varint.lengths", Rows.laid_mailcoach_varint_lengths)]
abbrev laidH4 : List (String × DataW Unit) := [("math/bits.deBruijn32tab", Rows.laid_math_bits_deBruijn32tab), ("math/bits.deBruijn64tab", Rows.laid_math_bits_deBruijn64tab), ("internal/strconv.uint64pow10", Rows.laid_internal_strconv_uint64pow10), ("mailcoach/varint.lengths", Rows.laid_mailcoach_varint_lengths)]
/-- The door's own heap meets the conditions. -/
theorem door_metH1 (os : Os) (args : Array Value) : laidMetH Tryd.prog laidH1 ((World.doorLaid Tryd.prog 400 os).forCall (fun _ _ => 0) ⟨#[], args, []⟩).memory :=
  laidMetH_of_parts3 (fuel := 8) (laidMet_of_run' 8 (by kernel_rfl) (by kernel_rfl)) (by kernel_rfl) (by kernel_rfl)
theorem door_metH4 (os : Os) (args : Array Value) : laidMetH Tryd.prog laidH4 ((World.doorLaid Tryd.prog 400 os).forCall (fun _ _ => 0) ⟨#[], args, []⟩).memory :=
  laidMetH_of_parts3 (fuel := 8) (laidMet_of_run' 8 (by kernel_rfl) (by kernel_rfl)) (by kernel_rfl) (by kernel_rfl)

set_option maxRecDepth 100000 in
theorem lens_ofH1 {W : World} (h : laidMetH Tryd.prog laidH1 W) : Lens W := by
  replace h : laidMet Tryd.prog laidH1 W := h
  have gL : Tryd.prog.globalNamed "mailcoach/varint.lengths" = some 0 := by kernel_rfl
  have hT : Lib.TabIs Tryd.prog W "mailcoach/varint.lengths" .i64 [1, 2, 4, 8] := Lib.tabIs_of_head (k := .i64) (zs := [1, 2, 4, 8]) (n := 4) gL (show (Tryd.prog.globals[0]?).map (·.type) = some 78 by kernel_rfl) Tryd.underlying78 Tryd.underlying3 (by kernel_rfl) (by kernel_rfl) h
  exact ⟨hT.cell gL 0 (by decide), hT.cell gL 1 (by decide), hT.cell gL 2 (by decide), hT.cell gL 3 (by decide)⟩
theorem lens_ofH4 {W : World} (h : laidMetH Tryd.prog laidH4 W) : Lens W := by
  replace h : laidMet Tryd.prog laidH4 W := h
  have h2 : laidMet Tryd.prog laidH1 W := laidMet.tail (laidMet.tail (laidMet.tail h))
  exact lens_ofH1 h2
end Go.Proofs.YtjccjlhnjihfjaaDoor
