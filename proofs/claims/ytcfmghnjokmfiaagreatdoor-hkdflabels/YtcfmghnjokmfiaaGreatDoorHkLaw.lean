/-
  What the document's Mac and Extract answer; what the law's great, TwinBytes, LeftBytes do with slices.
-/
import Derived.Test.YtcfmghnjokmfiaaGreatDoorHkHelp
import Derived.Test.YtcfmghnjokmfiaaGreatDoorHkMacW
namespace Go.Proofs.YtcfmghnjokmfiaaGreatDoor
open Go Go.RowKit

/-- A copy with a mark behind it. -/
structure Twin (w : World) (g : Nat) (b : List By) : Prop where
  lt : g < w.heap.size
  cell : ∀ j : Nat, j < b.length → w.cell? ⟨g, j, none⟩ = some (.int .u8 (v8 (gb b j)))
  mark : w.cell? ⟨g, b.length, none⟩ = some (.int .u8 77)
theorem Twin.below {w w' : World} {g : Nat} {b : List By} (h : Twin w g b) (hb : Below w.heap.size w w') : Twin w' g b :=
  ⟨Nat.lt_of_lt_of_le h.lt hb.size, fun j hj => (hb.cell (p := ⟨g, j, none⟩) h.lt).trans (h.cell j hj), (hb.cell (p := ⟨g, b.length, none⟩) h.lt).trans h.mark⟩
def twinS (g n : Nat) (b : List By) : SL := ⟨some ⟨g, 0, none⟩, n, n + 1, g, 0, b⟩
theorem Twin.ok {w : World} {g n : Nat} {b : List By} (h : Twin w g b) (hn : b.length = n) : (twinS g n b).Ok w := by
  subst hn
  refine ⟨rfl, (by show b.length ≤ b.length + 1; omega), fun e => by simp [twinS] at e, fun _ => rfl, fun _ => h.lt, fun j hj => ?_⟩
  show w.cell? ⟨g, 0 + j, none⟩ = _
  rw [Nat.zero_add]
  exact h.cell j hj
theorem twin_sl (q : SL) (w : World) (hq : q.Ok w) (hl : q.len ≤ 4194304) :
    Calls Tryz.prog 6 #[.slice q.a q.len q.cap] w fun e w' => ∃ g, e = .returned (.slice (some ⟨g, 0, none⟩) q.len (q.len + 1)) ∧ Twin w' g q.b ∧ w.heap.size ≤ g ∧ Below w.heap.size w w' := by
  refine (twin_any q.a q.len q.cap (nums q.b) w (by rw [nums_length, hq.hb]) hl (lies_of hq.hb hq.at_ hq.lt hq.cell)).mono ?_
  rintro e w1 ⟨g, rfl, hown, hb⟩
  obtain ⟨h1, h2, h3, h4⟩ := twin_cells (by rw [nums_length, hq.hb]) hown
  exact ⟨g, rfl, ⟨h1, fun j hj => by rw [h3 j (by rw [← hq.hb]; exact hj), nums_get q.b j hj], by rw [hq.hb]; exact h4⟩, h2, hb⟩
theorem left_sl (q : SL) (g : Nat) (w : World) (hq : q.Ok w) (hl : q.len ≤ 4194304) (ht : Twin w g q.b) :
    Calls Tryz.prog 10 #[.slice (some ⟨g, 0, none⟩) q.len (q.len + 1), .slice q.a q.len q.cap] w fun e w' => e = .returned (.bool true) ∧ Below w.heap.size w w' :=
  left_any g q.a q.len q.cap (nums q.b) w (by rw [nums_length, hq.hb]) hl (lies_of hq.hb hq.at_ hq.lt hq.cell) ht.lt (fun j hj => by rw [ht.cell j (by rw [hq.hb]; exact hj), nums_get q.b j (by rw [hq.hb]; exact hj)]) (by have := ht.mark; rw [hq.hb] at this; exact this)

set_option maxRecDepth 20000 in
set_option maxHeartbeats 1000000 in
theorem great_any (L o m c : Nat) (ls : List SL) (w : World) (hm : ls.length = m) (hm2 : m ≤ 1000) (hok : ∀ s ∈ ls, s.Ok w) (hbig : ∀ s ∈ ls, s.len ≤ 140737488355328)
    (hc : ∀ (j : Nat) (s : SL), ls[j]? = some s → w.cell? ⟨L, o + j, none⟩ = some (.slice s.a s.len s.cap)) :
    Calls Tryz.prog 5 #[.slice (some ⟨L, o, none⟩) m c] w fun e w' => e = .returned (.bool (decide (3145728 < (joinB ls).length))) ∧ w' = w := by
  have HM := veil hm
  have HOK := veil hok
  have HC := veil hc
  have HBG := veil hbig
  clear hm hok hc hbig
  go_enter Tryz.func5, Tryz.ntmps5
  go_wp2_with fail
  go_loopw [3, 4] (fun sz i wr => ∃ k N : Nat, k ≤ m ∧ i = .int .i64 k ∧ N = (joinB (ls.take k)).length ∧ N ≤ 3145728 ∧ sz = .int .i64 N ∧ w = wr)
    (fun _ i _ => m - (intOf i).toNat)
  case atStart => exact ⟨0, 0, Nat.zero_le _, rfl, rfl, by omega, rfl, rfl⟩
  case round =>
    obtain ⟨k, N, hk, rfl, hN, hN3, rfl, hw⟩ := hrel
    subst hw
    by_cases hlt : k < m
    · obtain ⟨s, hs⟩ : ∃ s, ls[k]? = some s := ⟨_, List.getElem?_eq_getElem (by rw [HM.out]; exact hlt)⟩
      have hcx := HC.out k s hs
      have hle := joinB_le ls (k + 1)
      have hj := joinB_take hs
      have hmem := List.mem_of_getElem? hs
      have hsb := (HOK.out s hmem).hb
      have hbg := HBG.out s hmem
      rw [hj, List.length_append, hsb, ← hN] at hle
      have hN2 : N + s.len = (joinB (ls.take (k + 1))).length := by rw [hj, List.length_append, hsb, ← hN]
      have hNN := veil hN2
      have HLE := veil hle
      clear hj hN hN2 hsb hs hle hmem
      obtain ⟨sa, sl, sc, sg, so, sb⟩ := s
      simp only at *
      by_cases hgt : (3145728 : Int) < (N : Int) + (sl : Int)
      · go_wp2_with fail
        go_ret
        exact ⟨by rw [decide_eq_true (by have := HLE.out; omega)]; rfl, rfl⟩
      · go_wp2_with fail
        go_roundw
        case rel => exact ⟨k + 1, N + sl, by omega, by go_num, hNN.out, by omega, by go_num, by first | trivial | rfl⟩
        case measure => simp only [intOf]; omega
    · obtain rfl : m = k := by omega
      rw [List.take_of_length_le (by rw [HM.out]; exact Nat.le_refl _)] at hN
      have HN := veil hN
      clear hN
      go_wp2_with fail
      go_ret
      exact ⟨by rw [decide_eq_false (by have := HN.out; omega)]; rfl, rfl⟩
end Go.Proofs.YtcfmghnjokmfiaaGreatDoor
