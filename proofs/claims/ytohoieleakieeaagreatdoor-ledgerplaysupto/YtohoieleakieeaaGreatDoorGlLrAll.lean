/-
  The document's Answer at any ranges.
-/
import Derived.Test.YtohoieleakieeaaGreatDoorGlLrAns
namespace Go.Proofs.YtohoieleakieeaaGreatDoor
open Go Go.RowKit

theorem refAnswer_any (g : Nat) (v : Value) (s : Lg.Led) (r : RL) (delay now : Nat) (w : World) (h : RdOk w g v s) (hr : r.Ok w) (c : Nat) (hf : Lg.Fit c s) (hc : c ≤ 2000) (hsep : 0 < r.len → r.g ≠ g) (hl : r.len ≤ 1048576) :
    Calls Tryz.prog 11 #[.pointer (some ⟨g, 0, none⟩), .slice r.a r.len r.cap, .int .u64 (delay : Int), .int .u64 (now : Int)] w fun e w' => ∃ u1 u2 v', e = .returned (.tuple #[u1, u2, .int .i64 (Lg.ansE s r.l delay now)]) ∧ w'.ownsRow w.heap.size 23 1 u1 (Lg.ansGot s r.l delay now).length (vnum (Lg.ansGot s r.l delay now)) ∧ w'.ownsRow w.heap.size 23 1 u2 (Lg.ansLost s r.l delay now).length (vnum (Lg.ansLost s r.l delay now)) ∧ RdOk w' g v' (Lg.answer s r.l delay now) ∧ KeepP (fun k => k = g) w w' ∧ Stay v v' w := by
  have no : ∀ (E : Int), E ≠ 0 → Lg.ansE s r.l delay now = E → ∀ (e : Ending) (w' : World), (e = .returned (.tuple #[.slice none 0 0, .slice none 0 0, .int .i64 E]) ∧ Below w.heap.size w w') → ∃ u1 u2 v', e = .returned (.tuple #[u1, u2, .int .i64 (Lg.ansE s r.l delay now)]) ∧ w'.ownsRow w.heap.size 23 1 u1 (Lg.ansGot s r.l delay now).length (vnum (Lg.ansGot s r.l delay now)) ∧ w'.ownsRow w.heap.size 23 1 u2 (Lg.ansLost s r.l delay now).length (vnum (Lg.ansLost s r.l delay now)) ∧ RdOk w' g v' (Lg.answer s r.l delay now) ∧ KeepP (fun k => k = g) w w' ∧ Stay v v' w := by
    rintro E hE he e w' ⟨rfl, hb⟩
    have h0 : ¬ Lg.ansE s r.l delay now = 0 := by rw [he]; exact hE
    have h1 : Lg.ansGot s r.l delay now = [] := if_neg h0
    have h2 : Lg.ansLost s r.l delay now = [] := if_neg (fun q => h0 q.1)
    have h3 : Lg.answer s r.l delay now = s := if_neg h0
    rw [h1, h2, h3, he]
    exact ⟨_, _, v, rfl, World.ownsRow_nil _ _ _ _, World.ownsRow_nil _ _ _ _, h.below hb, KeepP.of_below hb, fun k hk => .inl hk⟩
  have one : ¬ (Rg.setOk r.l ∧ r.l ≠ [] ∧ delay ≤ 1099511627775 ∧ Lg.timeOk s now) → Lg.ansE s r.l delay now = 1 := fun q => if_neg q
  rcases Classical.em (Rg.setOk r.l) with h0 | h0
  rotate_left
  · exact (refAns_no0 g v s r delay now w h hr h0).mono (no 1 (by decide) (one (fun q => h0 q.1)))
  by_cases h1 : r.len = 0
  · exact (refAns_no1 g v s r delay now w h hr h0 h1).mono (no 1 (by decide) (one (fun q => q.2.1 (List.eq_nil_of_length_eq_zero (hr.hb.trans h1)))))
  have h1' : 0 < r.len := by omega
  have hne : r.l ≠ [] := fun q => by have := hr.hb; rw [q] at this; simp at this; omega
  by_cases h2 : delay ≤ 1099511627775
  rotate_left
  · exact (refAns_no2 g v s r delay now w h hr h0 h1' (by omega)).mono (no 1 (by decide) (one (fun q => h2 q.2.2.1)))
  by_cases h3 : now ≤ 1099511627775
  rotate_left
  · exact (refAns_no3 g v s r delay now w h hr h0 h1' h2 (by omega)).mono (no 1 (by decide) (one (fun q => h3 q.2.2.2.1)))
  by_cases h4 : s.now ≤ now
  rotate_left
  · exact (refAns_no4 g v s r delay now w h hr h0 h1' h2 h3 (by omega)).mono (no 1 (by decide) (one (fun q => h4 q.2.2.2.2)))
  have hall : Rg.setOk r.l ∧ r.l ≠ [] ∧ delay ≤ 1099511627775 ∧ Lg.timeOk s now := ⟨h0, hne, h2, h3, h4⟩
  have nine : ¬ (s.any = true ∧ Lg.endOf r.l ≤ s.last) → Lg.ansE s r.l delay now = 9 := fun q => by unfold Lg.ansE; rw [if_pos hall, if_neg q]
  cases h5 : s.any with
  | false => exact (refAns_no5 g v s r delay now w h hr h0 h1' h2 h3 h4 hl h5).mono (no 9 (by decide) (nine (fun q => by rw [h5] at q; cases q.1)))
  | true =>
    by_cases h6 : lastOf r.l ≤ s.last
    rotate_left
    · exact (refAns_no6 g v s r delay now w h hr h0 h1' h2 h3 h4 hl h5 (by omega)).mono (no 9 (by decide) (nine (fun q => h6 (by rw [last_end]; exact q.2))))
    have hz : Lg.ansE s r.l delay now = 0 := by unfold Lg.ansE; rw [if_pos hall, if_pos ⟨h5, by rw [← last_end]; exact h6⟩]
    have g1 : Lg.ansGot s r.l delay now = (Lg.hitL s r.l).map (·.num) := if_pos hz
    have hcs : (Lg.hitL s r.l = [] ∧ Lg.ansLost s r.l delay now = [] ∧ Lg.answer s r.l delay now = { s with now := now }) ∨ (¬ Lg.hitL s r.l = [] ∧ Lg.ansLost s r.l delay now = Lg.lostL (Lg.struck s r.l delay now) now ∧ Lg.answer s r.l delay now = Lg.losing (Lg.struck s r.l delay now) now) := by
      by_cases e : Lg.hitL s r.l = []
      · exact .inl ⟨e, if_neg (fun q => q.2 e), by unfold Lg.answer; rw [if_pos hz, if_pos e]⟩
      · exact .inr ⟨e, if_pos ⟨hz, e⟩, by unfold Lg.answer; rw [if_pos hz, if_neg e]⟩
    refine (refAns_yes g v s r delay now w h hr c hf hc hsep h0 h1' h2 h3 h4 hl h5 h6 _ _ hcs).mono ?_
    rintro e w' ⟨u1, u2, v', rfl, o1, o2, hr', hk, hs⟩
    rw [hz, g1, List.length_map]
    exact ⟨u1, u2, v', rfl, o1, o2, hr', hk, hs⟩
end Go.Proofs.YtohoieleakieeaaGreatDoor
