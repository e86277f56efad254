/-
  A slice of bytes that came in, as the walks ask it, with the form's own reach.
-/
import Derived.Test.YtdieodhfkmnbcaaGreatDoorGpShaLiftS
import Derived.Test.YtdieodhfkmnbcaaGreatDoorGpChaSl
import Derived.SizedLaws
namespace Go.Proofs.YtdieodhfkmnbcaaGreatDoor
open Go Go.ChangeShapes Go.WideShapes Go.ChangeAt Go.RowKit

set_option maxRecDepth 100000 in
theorem open_sl {H : Type} {enc : TypeId × Value → H} {W : World} {base : Nat} {v : Value} {d : DataW H} {ps : List MemPlace} (hval : Value.okWide Tryz.prog W .any base 23 v) (h0 : DataW.Trod enc Tryz.prog W 0 (fun _ => true) true 23 v d ps) :
    ∃ q : SL, v = .slice q.a q.len q.cap ∧ q.Ok W ∧ ∀ (ts : List TypeId) (ds : List (DataW H)) (j : Nat), (DataW.weightsEach Tryz.prog ts ds).all (· ≤ reachBytes) = true → ts[j]? = some 23 → ds[j]? = some d → q.len ≤ 140737488355328 := by
  obtain ⟨a0, len0, cap0, rfl⟩ := okWide_slice Tryz.underlying23 hval
  obtain ⟨fuel, hf⟩ := h0
  rcases open_ints Tryz.underlying23 Tryz.underlying5 (by kernel_rfl) hf with ⟨hcs, hx⟩ | ⟨x, l, c, zs, hcs, _, hl, hm, hz, hx, hcell, hwz⟩
  · simp [Value.cells] at hcs
    obtain ⟨rfl, rfl, rfl⟩ := hcs
    obtain ⟨g, off, b, hr⟩ := isRowB_of (w := W) (a := none) (len := 0) (cap := 0) (.inl ⟨rfl, rfl, rfl⟩)
    exact ⟨⟨none, 0, 0, g, off, b⟩, rfl, ⟨hr.hlen, hr.hcap, hr.hnil, hr.at_, hr.hlt, hr.hcell⟩, fun _ _ _ _ _ _ => Nat.zero_le _⟩
  · simp [Value.cells] at hcs
    obtain ⟨rfl, rfl, rfl⟩ := hcs
    have hz' : zs.length = cap0 := by simpa using hz
    obtain ⟨g, off, b, hr⟩ := isRowB_of (w := W) (a := some x) (len := len0) (cap := cap0) (.inr ⟨_, zs, rfl, hl, hm, hz', hcell, hwz⟩)
    refine ⟨⟨some x, len0, cap0, g, off, b⟩, rfl, ⟨hr.hlen, hr.hcap, hr.hnil, hr.at_, hr.hlt, hr.hcell⟩, fun ts ds j hw ht hd => ?_⟩
    have e : d = .slice (lits .u8 (zs.take len0)) (lits .u8 (zs.drop len0)) := congrArg Prod.fst hx
    subst e
    have h := sized_slice hw ht hd Tryz.underlying23
    have hb : Tryz.prog.bytesOf 5 = 1 := by kernel_rfl
    rw [hb] at h
    have hr47 := reachBytes_lt
    simp only [lits, List.length_map, List.length_take, List.length_drop] at h
    show len0 ≤ _
    omega
end Go.Proofs.YtdieodhfkmnbcaaGreatDoor
