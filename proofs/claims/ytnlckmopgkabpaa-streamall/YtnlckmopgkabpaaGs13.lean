/-
  Out of ShaLiftA, ShaLiftS, ChaLift.
-/
import Derived.Test.YtnlckmopgkabpaaGs1
import Derived.Test.YtnlckmopgkabpaaRows
import Derived.ProofKit
import Derived.OpenShut
import Derived.ShutString
import Derived.ChangeOld
import Derived.Test.YtnlckmopgkabpaaGs7
import Derived.SizedLaws

/-! From what a row says of an array that came in to the words and bytes of the walks. -/
namespace Go.Proofs.Ytnlckmopgkabpaa
open Go Go.ChangeShapes Go.WideShapes Go.ChangeAt Go.RowKit

theorem own : ownKnob Try.prog.godebug = none := by kernel_rfl
theorem laidOut : laidOutB Try.prog = true := by kernel_rfl

section
variable {H : Type} {enc : TypeId × Value → H} {P : Program} {w : World} {base : Nat} {spare : Nat → Bool} {held : Bool}

end
end Go.Proofs.Ytnlckmopgkabpaa

/-! A slice of bytes that came in, as the walks ask it. -/
namespace Go.Proofs.Ytnlckmopgkabpaa
open Go Go.ChangeShapes Go.WideShapes Go.ChangeAt Go.RowKit

structure IsRowB (w : World) (a : Option Addr) (len cap g off : Nat) (b : List By) : Prop where
  hlen : b.length = len
  hmost : len ≤ 9223372036854775807
  hcap : len ≤ cap
  hnil : a = none → len = 0 ∧ cap = 0
  at_ : 0 < len → a = some ⟨g, off, none⟩
  hlt : 0 < len → g < w.heap.size
  hcell : ∀ j : Nat, j < len → w.cell? ⟨g, off + j, none⟩ = some (.int .u8 (v8 (gb b j)))

theorem isRowB_of {w : World} {a : Option Addr} {len cap : Nat} (h : (a = none ∧ len = 0 ∧ cap = 0) ∨ ∃ (x : Addr) (zs : List Int), a = some x ∧ len ≤ cap ∧ cap ≤ maxLen ∧ zs.length = cap ∧ (∀ i, i < zs.length → w.cell? (x.add i) = some (.int .u8 (zs.getD i 0))) ∧ ∀ n ∈ zs, (Lit.int .u8 n).wf = true) :
    ∃ g off b, IsRowB w a len cap g off b := by
  rcases h with ⟨rfl, rfl, rfl⟩ | ⟨x, zs, rfl, hl, hm, hz, hc, hw⟩
  · exact ⟨0, 0, [], rfl, by omega, Nat.le_refl _, fun _ => ⟨rfl, rfl⟩, fun h => by omega, fun h => by omega, fun j h => by omega⟩
  · unfold maxLen at hm
    obtain ⟨g, off, spot⟩ := x
    have hlen : ((zs.take len).map fun z => (BitVec.ofNat 8 z.toNat : By)).length = len := by rw [List.length_map, List.length_take]; omega
    have hsp : 0 < len → spot = none := fun h0 => by
      have hc0 := hc 0 (by omega)
      simpa [Addr.add] using World.cell?_spot hc0
    have hcell : ∀ j : Nat, j < len → w.cell? ⟨g, off + j, none⟩ = some (.int .u8 (v8 (gb ((zs.take len).map fun z => (BitVec.ofNat 8 z.toNat : By)) j))) := fun j hj => by
      obtain rfl := hsp (by omega)
      have h1 := hc j (by omega)
      rw [add_at] at h1
      rw [h1]
      have hjz : j < zs.length := by omega
      have hmem : zs[j]'hjz ∈ zs := List.getElem_mem hjz
      have hb := bounds_u8 (hw _ hmem)
      unfold gb v8
      rw [List.getElem?_map, List.getElem?_take_of_lt hj, List.getElem?_eq_getElem hjz, List.getD_eq_getElem?_getD, List.getElem?_eq_getElem hjz]
      simp only [Option.map_some, Option.getD_some, BitVec.toNat_ofNat]
      congr 2
      omega
    refine ⟨g, off, (zs.take len).map fun z => (BitVec.ofNat 8 z.toNat : By), hlen, by omega, hl, fun h => (by cases h), fun h => by rw [hsp h], fun h => ?_, hcell⟩
    have h1 := hcell 0 h
    rcases Nat.lt_or_ge g w.heap.size with h2 | h2
    · exact h2
    · exfalso
      simp [World.cell?, Array.getElem?_eq_none h2] at h1
end Go.Proofs.Ytnlckmopgkabpaa

/-! A slice of bytes that came in, as the walks ask it, with the form's own reach. -/
namespace Go.Proofs.Ytnlckmopgkabpaa
open Go Go.ChangeShapes Go.WideShapes Go.ChangeAt Go.RowKit

set_option maxRecDepth 100000 in
theorem open_sl {H : Type} {enc : TypeId × Value → H} {W : World} {base : Nat} {v : Value} {d : DataW H} {ps : List MemPlace} (hval : Value.okWide Try.prog W .any base 22 v) (h0 : DataW.Trod enc Try.prog W 0 (fun _ => true) true 22 v d ps) :
    ∃ q : SL, v = .slice q.a q.len q.cap ∧ q.Ok W ∧ ∀ (ts : List TypeId) (ds : List (DataW H)) (j : Nat), (DataW.weightsEach Try.prog ts ds).all (· ≤ reachBytes) = true → ts[j]? = some 22 → ds[j]? = some d → q.len ≤ 140737488355328 := by
  obtain ⟨a0, len0, cap0, rfl⟩ := okWide_slice Try.underlying22 hval
  obtain ⟨fuel, hf⟩ := h0
  rcases open_ints Try.underlying22 Try.underlying5 (by kernel_rfl) hf with ⟨hcs, hx⟩ | ⟨x, l, c, zs, hcs, _, hl, hm, hz, hx, hcell, hwz⟩
  · simp [Value.cells] at hcs
    obtain ⟨rfl, rfl, rfl⟩ := hcs
    obtain ⟨g, off, b, hr⟩ := isRowB_of (w := W) (a := none) (len := 0) (cap := 0) (.inl ⟨rfl, rfl, rfl⟩)
    exact ⟨⟨none, 0, 0, g, off, b⟩, rfl, ⟨hr.hlen, hr.hcap, hr.hnil, hr.at_, hr.hlt, hr.hcell⟩, fun _ _ _ _ _ _ => Nat.zero_le _⟩
  · simp [Value.cells] at hcs
    obtain ⟨rfl, rfl, rfl⟩ := hcs
    have hz' : zs.length = cap0 := by simpa using hz
    obtain ⟨g, off, b, hr⟩ := isRowB_of (w := W) (a := some x) (len := len0) (cap := cap0) (.inr ⟨_, zs, rfl, hl, hm, hz', hcell, hwz⟩)
    refine ⟨⟨some x, len0, cap0, g, off, b⟩, rfl, ⟨hr.hlen, hr.hcap, hr.hnil, hr.at_, hr.hlt, hr.hcell⟩, fun ts ds j hw ht hd => ?_⟩
    have e : d = .slice (lits .u8 (zs.take len0)) (lits .u8 (zs.drop len0)) := congrArg Prod.fst hx
    subst e
    have h := sized_slice hw ht hd Try.underlying22
    have hb : Try.prog.bytesOf 5 = 1 := by kernel_rfl
    rw [hb] at h
    have hr47 := reachBytes_lt
    simp only [lits, List.length_map, List.length_take, List.length_drop] at h
    show len0 ≤ _
    omega
end Go.Proofs.Ytnlckmopgkabpaa
