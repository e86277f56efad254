/-
  frame.Get, at any bytes that came in.
-/
import Derived.Test.YtjhgelhdhdcmfabDoorGcFrGet
namespace Go.Proofs.YtjhgelhdhdcmfabDoor
open Go Go.RowKit

set_option maxRecDepth 20000 in
set_option maxHeartbeats 2000000 in
theorem fr_frames_nil (g : Nat) (a : Option Addr) (cap tb : Nat) (w : World) (h : Row w g 47 #[.slice a 0 cap, .int .u64 (tb : Int)]) :
    Calls Tryd.prog 14 #[.pointer (some ⟨g, 0, none⟩)] w fun x w' => x = .returned (.tuple #[.slice none 0 0, .int .i64 0]) ∧ Below w.heap.size w w' := by
  have hmf : ∀ (fn : Fn) (first cap : Array Value) (w : World), (Instr.makeFunc fn first cap).run Tryd.prog w = .ok (.func fn first cap) w := fun _ _ _ _ => rfl
  have hgw := h.lt
  have H := veil h
  have B0 := veil (show Below w.heap.size w ((w.alloc (.cells #[.slice none 0 0] 22)).alloc (.cells #[.int .i64 0] 32)) from ((Below.refl _ w).alloc (Nat.le_refl _) _).alloc (by simp) _)
  have RL := veil (show Row ((w.alloc (.cells #[.slice none 0 0] 22)).alloc (.cells #[.int .i64 0] 32)) w.heap.size 22 #[.slice none 0 0] from (Row.new _ _ _).alloc _)
  have RE := veil (show Row ((w.alloc (.cells #[.slice none 0 0] 22)).alloc (.cells #[.int .i64 0] 32)) (w.heap.size + 1) 32 #[.int .i64 0] from Row.new1 _ _ _ _)
  have hs0 : ((w.alloc (.cells #[.slice none 0 0] 22)).alloc (.cells #[.int .i64 0] 32)).heap.size = w.heap.size + 2 := by simp
  clear h
  refine (callsIn_wide (n := 4)).1 ?_
  refine callsIn_of_wp_defers Tryd.func14 rfl trivial ?_ rfl
  simp only [Tryd.ntmps14, List.size_toArray, List.length_cons, List.length_nil, Nat.reduceAdd, Nat.reduceSub, Array.replicate_succ, Array.replicate_zero, List.push_toArray, List.append_toArray, List.nil_append, List.cons_append]
  gi_wp2_with fail
  refine ⟨trivial, (callsIn_wide.2 (rd_rows g ((w.alloc (.cells #[.slice none 0 0] 22)).alloc (.cells #[.int .i64 0] 32)))).mono ?_⟩
  rintro x1 w1 ⟨rfl, hM1, hb1⟩
  rw [hs0] at hM1 hb1 ⊢
  have ST := veil (show Row w1 g 47 #[.slice a 0 cap, .int .u64 (tb : Int)] ∧ Row w1 w.heap.size 22 #[.slice none 0 0] ∧ Row w1 (w.heap.size + 1) 32 #[.int .i64 0] ∧ Below w.heap.size w w1 from ⟨(H.out.below B0.out hgw).below hb1 (by omega), RL.out.below hb1 (by omega), RE.out.below hb1 (by omega), B0.out.trans (hb1.mono (by omega))⟩)
  clear hM1 hb1 B0 RL RE hs0
  gi_wp2_with fail
  gi_loopw [5] (fun _ wr => Row wr g 47 #[.slice a 0 cap, .int .u64 (tb : Int)] ∧ Row wr w.heap.size 22 #[.slice none 0 0] ∧ Row wr (w.heap.size + 1) 32 #[.int .i64 0] ∧ Below w.heap.size w wr)
    (fun _ _ => 0)
  case atStart => exact ST.out
  case round =>
    clear ST
    obtain ⟨h1, h2, h3, h4⟩ := hrel
    have c0 : wr.cell? ⟨g, 0, none⟩ = some (.slice a 0 cap) := h1.cell 0
    have cl : wr.cell? ⟨w.heap.size, 0, none⟩ = some (.slice none 0 0) := h2.cell 0
    have zl := h2.frozen 0
    have ce : wr.cell? ⟨w.heap.size + 1, 0, none⟩ = some (.int .i64 0) := h3.cell 0
    have ze := h3.frozen 0
    have H2 := veil (h2.set 0 (.slice none 0 0))
    have H3 := veil (h3.other (a := ⟨w.heap.size, 0, none⟩) (show w.heap.size + 1 ≠ w.heap.size by omega) (.slice none 0 0))
    have H4 := veil (((h4.setCell (p := ⟨w.heap.size, 0, none⟩) (Nat.le_refl _) (.slice none 0 0))).setCell (p := ⟨w.heap.size + 1, 0, none⟩) (show w.heap.size ≤ w.heap.size + 1 by omega) (.int .i64 0))
    clear h1 h2 h3 h4
    gi_wp2_with fail
    refine door_ret w.heap.size _ none 0 0 (H2.out.other (a := ⟨w.heap.size + 1, 0, none⟩) (show w.heap.size ≠ w.heap.size + 1 by omega) _) (H3.out.set 0 _) rfl rfl ?_
    exact ⟨rfl, H4.out⟩

set_option maxRecDepth 20000 in
set_option maxHeartbeats 2000000 in
/-- frame.Get, of bytes that came in. -/
theorem get_any7 (s : SL) (w : World) (hs : s.Ok w) (ht : 0 < s.len → s.Told) (hL : Lens w) :
    Calls Tryd.prog 8 #[.slice s.a s.len s.cap] w fun x w' => GetPost w s.b x w' ∧ Below w.heap.size w w' := by
  by_cases h0 : 0 < s.len
  · exact frame_get s w hs (ht h0) hL
  · have hl : s.len = 0 := by omega
    have hb : s.b = [] := List.eq_nil_of_length_eq_zero (by rw [hs.hb]; exact hl)
    have b0 : Below w.heap.size w (w.alloc (.cells #[.slice s.a 0 s.cap, .int .u64 ((0 : Nat) : Int)] 47)) := (Below.refl _ w).alloc (Nat.le_refl _) _
    have FN := veil (fr_frames_nil w.heap.size s.a s.cap 0 (w.alloc (.cells #[.slice s.a 0 s.cap, .int .u64 ((0 : Nat) : Int)] 47)) (Row.new _ _ _))
    have B0 := veil b0
    have RES := veil (fun (w' : World) => (show GetPost w s.b (.returned (.tuple #[.slice none 0 0, .int .i64 0])) w' from .inr ⟨⟨none, 0, 0, 0, 0, []⟩, by rw [hb]; rfl, rfl, ⟨rfl, Nat.le_refl _, fun _ => ⟨rfl, rfl⟩, fun p => absurd p (Nat.lt_irrefl _), fun p => absurd p (Nat.lt_irrefl _), fun j hj => absurd hj (Nat.not_lt_zero _), fun j hj => absurd hj (Nat.not_lt_zero _)⟩, ⟨Nat.zero_le _, fun j hj => absurd hj (Nat.not_lt_zero _)⟩, World.ownsRow_nil _ _ _ _, fun F hF => by cases hF⟩))
    rw [hl]
    clear hs ht hL h0 hl hb b0
    go_enter Tryd.func8, Tryd.ntmps8
    go_wp2_with fail
    refine FN.out.mono ?_
    rintro x1 w1 ⟨rfl, hb1⟩
    have B1 := veil (B0.out.trans (hb1.mono B0.out.size))
    clear hb1
    go_wp2_with fail
    go_ret2
    exact ⟨RES.out w1, B1.out⟩
end Go.Proofs.YtjhgelhdhdcmfabDoor
