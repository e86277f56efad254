/-
  frame's reader: frames, at the door.
-/
import Derived.Test.YtjhgelhdhdcmfaaDoorGfFrFrames
import Derived.TacticsInMore
namespace Go.Proofs.YtjhgelhdhdcmfaaDoor
open Go Go.RowKit

def dfr (L : Nat) : Deferred := { target := .fn (.func 30) #[.pointer (some ⟨L, 0, none⟩), .pointer (some ⟨L + 1, 0, none⟩)], args := #[] }
theorem results_two (tmps : Array Value) (L : Nat) (aV : Option Addr) (n cV : Nat) (E : Int) (W : World) (h2 : tmps.getD 2 undef = .pointer (some ⟨L, 0, none⟩)) (h3 : tmps.getD 3 undef = .pointer (some ⟨L + 1, 0, none⟩)) (hl : W.cell? ⟨L, 0, none⟩ = some (.slice aV n cV)) (he : W.cell? ⟨L + 1, 0, none⟩ = some (.int .i64 E)) :
    (results Tryd.f20 tmps).run Tryd.prog W = .ok (.tuple #[.slice aV n cV, .int .i64 E]) W := by
  have h2' : tmps[2]?.getD undef = .pointer (some ⟨L, 0, none⟩) := by simpa using h2
  have h3' : tmps[3]?.getD undef = .pointer (some ⟨L + 1, 0, none⟩) := by simpa using h3
  simp [results, Tryd.results20, h2', h3', asAddr, go_sem, hl, he]
theorem door_pan {tmps : Array Value} {R : Ending → World → Prop} (L E : Nat) (W : World) (lv ev : Value) (rl : Row W L 22 #[lv]) (re : Row W (L + 1) 27 #[ev]) (h2 : tmps.getD 2 undef = .pointer (some ⟨L, 0, none⟩)) (h3 : tmps.getD 3 undef = .pointer (some ⟨L + 1, 0, none⟩))
    (hR : R (.returned (.tuple #[.slice none 0 0, .int .i64 (E : Int)])) ((W.setCell ⟨L, 0, none⟩ (.slice none 0 0)).setCell ⟨L + 1, 0, none⟩ (.int .i64 (E : Int)))) :
    LeavesIn Fence.wide 4 Tryd.prog Tryd.f20 tmps R [dfr L] (.panicking [{ v := .iface 27 (.int .i64 (E : Int)), recovered := false }]) W := by
  refine leavesIn_cons (f := 30) (args := #[.pointer (some ⟨L, 0, none⟩), .pointer (some ⟨L + 1, 0, none⟩)]) (by simp) (by simp [Fence.wide]) (by simp [go_sem]) (by simp [Fence.wide]) ?_
  refine (catch_pan _ L (L + 1) E lv ev W (rl.cell 0) (rl.frozen 0) (re.cell 0) (re.frozen 0) (by omega)).mono ?_
  rintro e u' w'' ⟨rfl, rfl, rfl⟩
  refine ⟨_, results_two tmps L none 0 0 (E : Int) _ h2 h3 ?_ ?_, hR⟩
  · exact (rl.set 0 _).other (a := ⟨L + 1, 0, none⟩) (show L ≠ L + 1 by omega) _ |>.cell 0
  · exact ((re.other (a := ⟨L, 0, none⟩) (show L + 1 ≠ L by omega) _).set 0 _).cell 0
theorem door_ret {tmps : Array Value} {R : Ending → World → Prop} (L : Nat) (W : World) (aV : Option Addr) (n cV : Nat) (rl : Row W L 22 #[.slice aV n cV]) (re : Row W (L + 1) 27 #[.int .i64 0]) (h2 : tmps.getD 2 undef = .pointer (some ⟨L, 0, none⟩)) (h3 : tmps.getD 3 undef = .pointer (some ⟨L + 1, 0, none⟩))
    (hR : R (.returned (.tuple #[.slice aV n cV, .int .i64 0])) W) :
    LeavesIn Fence.wide 4 Tryd.prog Tryd.f20 tmps R [dfr L] .returning W := by
  refine leavesIn_cons (f := 30) (args := #[.pointer (some ⟨L, 0, none⟩), .pointer (some ⟨L + 1, 0, none⟩)]) (by simp) (by simp [Fence.wide]) (by simp [go_sem]) (by simp [Fence.wide]) ?_
  refine (catch_idle _ L (L + 1) W).mono ?_
  rintro e u' w'' ⟨rfl, rfl, rfl⟩
  exact ⟨_, results_two tmps L aV n cV 0 _ h2 h3 (rl.cell 0) (re.cell 0), hR⟩
end Go.Proofs.YtjhgelhdhdcmfaaDoor
