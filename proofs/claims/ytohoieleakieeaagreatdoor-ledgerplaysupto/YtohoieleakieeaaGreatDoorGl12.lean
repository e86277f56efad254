/-
  Out of ShaLiftA, RgOpen.
-/
import Derived.Test.YtohoieleakieeaaGreatDoorGl1
import Derived.Test.YtohoieleakieeaaGreatDoorRows
import Derived.ProofKit
import Derived.OpenShut
import Derived.ShutString
import Derived.ChangeOld
import Derived.SizedLaws

/-! From what a row says of an array that came in to the words and bytes of the walks. -/
namespace Go.Proofs.YtohoieleakieeaaGreatDoor
open Go Go.ChangeShapes Go.WideShapes Go.ChangeAt Go.RowKit

theorem own : ownKnob Tryz.prog.godebug = none := by kernel_rfl
theorem laidOut : laidOutB Tryz.prog = true := by kernel_rfl

section
variable {H : Type} {enc : TypeId × Value → H} {P : Program} {w : World} {base : Nat} {spare : Nat → Bool} {held : Bool}

end
end Go.Proofs.YtohoieleakieeaaGreatDoor

/-! Ranges that came in. -/
namespace Go.Proofs.YtohoieleakieeaaGreatDoor
open Go Go.ChangeShapes Go.WideShapes Go.ChangeAt Go.RowKit

theorem pick_list {α : Type} {Pr : Nat → α → Prop} : ∀ (n : Nat), (∀ i, i < n → ∃ r, Pr i r) → ∃ l : List α, l.length = n ∧ ∀ i, i < n → ∃ r, l[i]? = some r ∧ Pr i r
  | 0, _ => ⟨[], rfl, fun i hi => absurd hi (Nat.not_lt_zero _)⟩
  | n + 1, h => by
    obtain ⟨l, h1, h2⟩ := pick_list n (fun i hi => h i (by omega))
    obtain ⟨r, hr⟩ := h n (by omega)
    refine ⟨l ++ [r], by rw [List.length_append, h1]; rfl, fun i hi => ?_⟩
    rcases Nat.lt_or_ge i n with q | q
    · obtain ⟨r', h3, h4⟩ := h2 i q
      exact ⟨r', by rw [List.getElem?_append_left (by omega)]; exact h3, h4⟩
    · obtain rfl : i = n := by omega
      exact ⟨r, by rw [List.getElem?_append_right (by omega), h1, Nat.sub_self]; rfl, hr⟩
section
variable {H : Type} {enc : TypeId × Value → H} {W : World}
theorem open_u64 {fuel : Nat} {cs : List Value} {x : DataW H × List MemPlace} (hf : DataW.trod enc Tryz.prog W 0 (fun _ => true) true fuel 23 cs = some x) : ∃ n : Nat, cs = [.int .u64 (n : Int)] ∧ n < 18446744073709551616 := by
  obtain ⟨n, h1, _, h3⟩ := DataW.trod_int Tryz.underlying23 hf
  have hb := bounds_u64 h3
  exact ⟨n.toNat, by rw [h1, Int.toNat_of_nonneg hb.1], by omega⟩
theorem two_cells {l : List Value} {a b : Value} (h : l.length = 2) (h0 : (l.drop 0).take 1 = [a]) (h1 : (l.drop 1).take 1 = [b]) : l = [a, b] := by
  match l, h with
  | [x, y], _ => simp at h0 h1; rw [h0, h1]
set_option maxRecDepth 100000 in
theorem open_rg {fuel : Nat} {cs : List Value} {x : DataW H × List MemPlace} (hf : DataW.trod enc Tryz.prog W 0 (fun _ => true) true fuel 63 cs = some x) :
    ∃ r : Nat × Nat, cs = [.int .u64 (r.1 : Int), .int .u64 (r.2 : Int)] ∧ r.1 < 18446744073709551616 ∧ r.2 < 18446744073709551616 := by
  obtain ⟨xs, n, _, hxd, hlen, hxl, hfs⟩ := DataW.trod_struct Tryz.underlying63 hf
  have hl : Tryz.prog.cellsOf 63 = 2 := by kernel_rfl
  have c1 : Tryz.prog.cellsOf 23 = 1 := by kernel_rfl
  have e0 : DataW.trod enc Tryz.prog W 0 (fun _ => true) true n 23 (List.take (Tryz.prog.cellsOf 23) (List.drop 0 _)) = xs[0]? := hfs 0 _ rfl
  have e1 : DataW.trod enc Tryz.prog W 0 (fun _ => true) true n 23 (List.take (Tryz.prog.cellsOf 23) (List.drop 1 _)) = xs[1]? := hfs 1 _ rfl
  have hx : xs.length = 2 := hxl
  rw [c1, List.getElem?_eq_getElem (by omega)] at e0
  rw [c1, List.getElem?_eq_getElem (by omega)] at e1
  obtain ⟨n0, h0, b0⟩ := open_u64 e0
  obtain ⟨n1, h1, b1⟩ := open_u64 e1
  rw [hl] at hlen
  exact ⟨(n0, n1), two_cells hlen h0 h1, b0, b1⟩
set_option maxRecDepth 100000 in
theorem open_rl7 {fuel : Nat} {cs : List Value} {x : DataW H × List MemPlace} (hf : DataW.trod enc Tryz.prog W 0 (fun _ => true) true fuel 24 cs = some x) :
    ∃ q : RL, cs = [.slice q.a q.len q.cap] ∧ q.Ok W ∧ ((∀ m ∈ x.1.weights Tryz.prog 24, m ≤ reachBytes) → q.len ≤ 140737488355328) := by
  rcases DataW.trod_slice Tryz.underlying24 hf with ⟨hcs, hx⟩ | ⟨a, len, cap, elems, rest, n, _, hcs, hx, _, hl, hm, hlen, hel, hsp, _⟩
  · exact ⟨⟨none, 0, 0, 0, 0, []⟩, hcs, ⟨rfl, Nat.le_refl _, fun _ => ⟨rfl, rfl⟩, fun p => absurd p (Nat.lt_irrefl _), fun p => absurd p (Nat.lt_irrefl _), fun _ h => absurd h (Nat.not_lt_zero _), fun _ => ⟨by show (0 : Nat) < _; decide, by show (0 : Nat) < _; decide⟩⟩, fun _ => Nat.zero_le _⟩
  · have hc2 : Tryz.prog.cellsOf 63 = 2 := by kernel_rfl
    have each : ∀ i, i < len → ∃ r : Nat × Nat, W.cell? ((a.add (i * 2)).add 0) = some (.int .u64 (r.1 : Int)) ∧ W.cell? ((a.add (i * 2)).add 1) = some (.int .u64 (r.2 : Int)) ∧ r.1 < 18446744073709551616 ∧ r.2 < 18446744073709551616 := by
      intro i hi
      have h := hel i hi
      rw [hc2, List.getElem?_eq_getElem (by omega), Option.bind_eq_some_iff] at h
      obtain ⟨cs', h1, h2⟩ := h
      obtain ⟨_, h3, h4⟩ := World.cells?_some h1
      obtain ⟨r, h5, h6, h7⟩ := open_rg h2
      rw [h5] at h4
      exact ⟨r, h4 0 (by decide), h4 1 (by decide), h6, h7⟩
    obtain ⟨l, hll, hl2⟩ := pick_list len each
    obtain ⟨g, off, spot⟩ := a
    have hspot : 0 < len → spot = none := fun p => by
      obtain ⟨r, h1, _⟩ := each 0 p
      have := World.cell?_spot h1
      simpa [Addr.add] using this
    refine ⟨⟨some ⟨g, off, spot⟩, len, cap, g, off, l⟩, hcs, ⟨hll, hl, (fun e => by cases e), fun p => by rw [hspot p], fun p => ?_, fun j hj => ?_, fun j => ?_⟩, fun hw => ?_⟩
    · obtain rfl := hspot p
      obtain ⟨r, h1, _⟩ := each 0 p
      rcases Nat.lt_or_ge g W.heap.size with q | q
      · exact q
      · exfalso
        simp [World.cell?, Addr.add, Array.getElem?_eq_none q] at h1
    · have hj' : j < len := hj
      obtain rfl := hspot (by omega)
      obtain ⟨r, h0, h1, h2, _⟩ := hl2 j hj'
      have e : gr l j = r := by unfold gr; rw [h0]; rfl
      rw [Addr.add_mid, Addr.add_mid] at h1 h2
      show W.cell? ⟨g, off + j * 2, none⟩ = some (.int .u64 ((gr l j).1 : Int)) ∧ W.cell? ⟨g, off + j * 2 + 1, none⟩ = some (.int .u64 ((gr l j).2 : Int))
      rw [e]
      exact ⟨by rw [← h1, Nat.add_zero], h2⟩
    · show (gr l j).1 < _ ∧ (gr l j).2 < _
      rcases Nat.lt_or_ge j len with q | q
      · obtain ⟨r, h0, _, _, h3, h4⟩ := hl2 j q
        have e : gr l j = r := by unfold gr; rw [h0]; rfl
        rw [e]
        exact ⟨h3, h4⟩
      · have e : gr l j = (0, 0) := by unfold gr; rw [List.getElem?_eq_none (by omega)]; rfl
        rw [e]
        exact ⟨by decide, by decide⟩
    · have e : x.1 = .slice (elems.map (·.1)) (rest.map (·.1)) := congrArg Prod.fst hx
      rw [e] at hw
      have h := hw _ (show ((elems.map (·.1)).length + (rest.map (·.1)).length) * Tryz.prog.bytesOf 63 ∈ _ by simp [DataW.weights, Tryz.underlying24])
      have hb : Tryz.prog.bytesOf 63 = 16 := by kernel_rfl
      rw [hb] at h
      have hr47 := reachBytes_lt
      simp only [List.length_map] at h
      show len ≤ _
      omega
end
section
variable {H : Type} {enc : TypeId × Value → H} {W : World} {base : Nat} {v : Value} {d : DataW H} {ps : List MemPlace}
end
end Go.Proofs.YtohoieleakieeaaGreatDoor
