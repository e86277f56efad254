/-
  What chacha.twoRounds answers.
-/
import Derived.Test.YtbheoldakmcppaaGreatDoorGs3
import Derived.BigRegion
import Derived.Deep.Cut
import Derived.Deep.CutRange
import Derived.Deep.RegionHeld3
import Derived.Deep.RegionWith
import Derived.Deep.DrawnRows
namespace Go.Proofs.YtbheoldakmcppaaGreatDoor
open Go Go.RowKit

set_option maxRecDepth 20000 in
set_option maxHeartbeats 2000000 in
theorem twoRounds_any (s : List Wd) (hs : s.length = 16) (w : World) (hg : Glob w) :
    Calls Tryz.prog 145 #[.agg (ws s)] w fun e w' => e = .returned (.agg (ws (twoL s))) ∧ Below w.heap.size w w' := by
  have HS : Hid (s.length = 16) := hs
  have HG : Hid (Glob w) := hg
  clear hs hg
  obtain ⟨⟨tq, fq, hq⟩, hlq⟩ := And.intro HG.out.qu HG.out.lt.2
  have HQ : Hid (((w.alloc (.cells (ws s) 210)).alloc (.cells (ws (List.replicate 16 0)) 210)).heap[1]? = some (.cells (is QN) tq fq)) :=
    (Below.heap_alloc _ _ _ (by simp; omega)).trans ((Below.heap_alloc _ _ _ hlq).trans hq)
  clear hq
  go_enter Tryz.func145, Tryz.ntmps145
  go_wp2_with (first
    | (with_reducible (show wpList _ _ _ (⟨_, Op.load 244 _, _, _, _, _⟩ :: _) _ _)
       refine wpList_load_row rfl 244 _ rfl 1 rfl tq (is QN) fq _ HQ.out Tryz.underlying244 rfl (by kernel_rfl) ?_))
  go_loopw [6] (fun i wr => ∃ k : Nat, k ≤ 8 ∧ i = .int .i64 k ∧ Row wr w.heap.size 210 (ws (twoTo s k)) ∧ Row wr (w.heap.size + 1) 210 (ws (List.replicate 16 0)) ∧ Below w.heap.size w wr)
    (fun i _ => 8 - (intOf i).toNat)
  case atStart => exact ⟨0, by omega, rfl, by rw [twoTo_zero]; exact (Row.new _ _ _).alloc _, Row.new1 _ _ _ (ws (List.replicate 16 0)), ((Below.refl _ w).alloc (Nat.le_refl _) _).alloc (by simp) _⟩
  case round =>
    obtain ⟨k, hk, rfl, r0, r1, hbel⟩ := hrel
    by_cases hlt : k < 8
    · have HP : Hid _ := qi_part k hlt
      have HL := (show Hid (∀ j, j < 4 → qi k j < 16) from qi_lt k hlt)
      have HE : Hid (twoTo s (k + 1) = quart (twoTo s k) (qi k 0) (qi k 1) (qi k 2) (qi k 3)) := show _ = _ from twoTo_succ s k
      have l0 := HL.out 0 (by omega)
      have l1 := HL.out 1 (by omega)
      have l2 := HL.out 2 (by omega)
      have l3 := HL.out 3 (by omega)
      generalize qi k 0 = q0 at *
      generalize qi k 1 = q1 at *
      generalize qi k 2 = q2 at *
      generalize qi k 3 = q3 at *
      have HT : Hid ((twoTo s k).length = 16) := show _ = _ by rw [twoTo_length]; exact HS.out
      generalize twoTo s k = S at *
      have hl0 := r0.lt
      have hl1 := r1.lt
      clear HL HQ
      go_wp2_with (first
        | (with_reducible (show wpList _ _ _ (⟨_, Op.index 244 _ _, _, _, _, _⟩ :: _) _ _)
           refine index_part rfl 244 _ _ rfl 243 8 4 3 (is QN) _ k rfl rfl Tryz.underlying244 Tryz.underlying243 (by kernel_rfl) hlt HP.out ?_))
      have A0 : Row (wr.alloc (.cells #[.int .i64 (q0 : Nat), .int .i64 (q1 : Nat), .int .i64 (q2 : Nat), .int .i64 (q3 : Nat)] 243)).drew wr.heap.size 243 #[.int .i64 (q0 : Nat), .int .i64 (q1 : Nat), .int .i64 (q2 : Nat), .int .i64 (q3 : Nat)] := (Row.new _ _ _).drew
      have B0 : Row (wr.alloc (.cells #[.int .i64 (q0 : Nat), .int .i64 (q1 : Nat), .int .i64 (q2 : Nat), .int .i64 (q3 : Nat)] 243)).drew w.heap.size 210 (ws S) := (r0.alloc _).drew
      have C0 : Row (wr.alloc (.cells #[.int .i64 (q0 : Nat), .int .i64 (q1 : Nat), .int .i64 (q2 : Nat), .int .i64 (q3 : Nat)] 243)).drew (w.heap.size + 1) 210 (ws (List.replicate 16 0)) := (r1.alloc _).drew
      have D0 : Below w.heap.size w (wr.alloc (.cells #[.int .i64 (q0 : Nat), .int .i64 (q1 : Nat), .int .i64 (q2 : Nat), .int .i64 (q3 : Nat)] 243)).drew := (hbel.alloc hbel.size _).drew
      refine two_begin (c := 24) (S := fun b W => Row W wr.heap.size 243 #[.int .i64 (q0 : Nat), .int .i64 (q1 : Nat), .int .i64 (q2 : Nat), .int .i64 (q3 : Nat)] ∧ (b = false → Row W w.heap.size 210 (ws S))) (by kernel_rfl) ?_
      generalize (wr.alloc (.cells #[.int .i64 (q0 : Nat), .int .i64 (q1 : Nat), .int .i64 (q2 : Nat), .int .i64 (q3 : Nat)] 243)).drew = W0 at *
      have hS0 : Row W0 wr.heap.size 243 #[.int .i64 (q0 : Nat), .int .i64 (q1 : Nat), .int .i64 (q2 : Nat), .int .i64 (q3 : Nat)] ∧ (false = false → Row W0 w.heap.size 210 (ws S)) := ⟨A0, fun _ => B0⟩
      clear HP
      --{
      refine two_late (i := 0) (v := .pointer (some ⟨wr.heap.size, 0, none⟩)) false (by kernel_rfl) rfl (fun _ h => ⟨h.1, fun h2 => by cases h2⟩) (by decide) (by kernel_rfl) (by kernel_rfl) (by kernel_rfl) (by decide +kernel) (fun _ _ _ h => h) (by kernel_rfl) (fun W h => run_addr 243 3 4 _ _ wr.heap.size 0 rfl (by kernel_rfl) (by kernel_rfl) Tryz.underlying243 (by kernel_rfl) (by omega) W) hS0 ?_
      refine two_late (i := 1) (v := .int .i64 (q0 : Nat)) false (by kernel_rfl) rfl (fun _ h => ⟨h.1, fun h2 => by cases h2⟩) (by decide) (by kernel_rfl) (by kernel_rfl) (by kernel_rfl) (by decide +kernel) (fun _ _ _ h => h) (by kernel_rfl) (fun W h => run_cell 3 _ ⟨wr.heap.size, 0, none⟩ _ _ rfl (by kernel_rfl) Tryz.underlying3 rfl W ((h.1.cell 0).trans rfl)) hS0 ?_
      refine two_late (i := 2) (v := .pointer (some ⟨wr.heap.size, 1, none⟩)) false (by kernel_rfl) rfl (fun _ h => ⟨h.1, fun h2 => by cases h2⟩) (by decide) (by kernel_rfl) (by kernel_rfl) (by kernel_rfl) (by decide +kernel) (fun _ _ _ h => h) (by kernel_rfl) (fun W h => run_addr 243 3 4 _ _ wr.heap.size 1 rfl (by kernel_rfl) (by kernel_rfl) Tryz.underlying243 (by kernel_rfl) (by omega) W) hS0 ?_
      refine two_late (i := 3) (v := .int .i64 (q1 : Nat)) false (by kernel_rfl) rfl (fun _ h => ⟨h.1, fun h2 => by cases h2⟩) (by decide) (by kernel_rfl) (by kernel_rfl) (by kernel_rfl) (by decide +kernel) (fun _ _ _ h => h) (by kernel_rfl) (fun W h => run_cell 3 _ ⟨wr.heap.size, 1, none⟩ _ _ rfl (by kernel_rfl) Tryz.underlying3 rfl W ((h.1.cell 1).trans rfl)) hS0 ?_
      refine two_late (i := 4) (v := .pointer (some ⟨wr.heap.size, 2, none⟩)) false (by kernel_rfl) rfl (fun _ h => ⟨h.1, fun h2 => by cases h2⟩) (by decide) (by kernel_rfl) (by kernel_rfl) (by kernel_rfl) (by decide +kernel) (fun _ _ _ h => h) (by kernel_rfl) (fun W h => run_addr 243 3 4 _ _ wr.heap.size 2 rfl (by kernel_rfl) (by kernel_rfl) Tryz.underlying243 (by kernel_rfl) (by omega) W) hS0 ?_
      refine two_late (i := 5) (v := .int .i64 (q2 : Nat)) false (by kernel_rfl) rfl (fun _ h => ⟨h.1, fun h2 => by cases h2⟩) (by decide) (by kernel_rfl) (by kernel_rfl) (by kernel_rfl) (by decide +kernel) (fun _ _ _ h => h) (by kernel_rfl) (fun W h => run_cell 3 _ ⟨wr.heap.size, 2, none⟩ _ _ rfl (by kernel_rfl) Tryz.underlying3 rfl W ((h.1.cell 2).trans rfl)) hS0 ?_
      refine two_late (i := 6) (v := .pointer (some ⟨wr.heap.size, 3, none⟩)) false (by kernel_rfl) rfl (fun _ h => ⟨h.1, fun h2 => by cases h2⟩) (by decide) (by kernel_rfl) (by kernel_rfl) (by kernel_rfl) (by decide +kernel) (fun _ _ _ h => h) (by kernel_rfl) (fun W h => run_addr 243 3 4 _ _ wr.heap.size 3 rfl (by kernel_rfl) (by kernel_rfl) Tryz.underlying243 (by kernel_rfl) (by omega) W) hS0 ?_
      refine two_late (i := 7) (v := .int .i64 (q3 : Nat)) false (by kernel_rfl) rfl (fun _ h => ⟨h.1, fun h2 => by cases h2⟩) (by decide) (by kernel_rfl) (by kernel_rfl) (by kernel_rfl) (by decide +kernel) (fun _ _ _ h => h) (by kernel_rfl) (fun W h => run_cell 3 _ ⟨wr.heap.size, 3, none⟩ _ _ rfl (by kernel_rfl) Tryz.underlying3 rfl W ((h.1.cell 3).trans rfl)) hS0 ?_
      refine two_late (i := 8) (v := .pointer (some ⟨wr.heap.size, 0, none⟩)) false (by kernel_rfl) rfl (fun _ h => ⟨h.1, fun h2 => by cases h2⟩) (by decide) (by kernel_rfl) (by kernel_rfl) (by kernel_rfl) (by decide +kernel) (fun _ _ _ h => h) (by kernel_rfl) (fun W h => run_addr 243 3 4 _ _ wr.heap.size 0 rfl (by kernel_rfl) (by kernel_rfl) Tryz.underlying243 (by kernel_rfl) (by omega) W) hS0 ?_
      refine two_late (i := 9) (v := .int .i64 (q0 : Nat)) false (by kernel_rfl) rfl (fun _ h => ⟨h.1, fun h2 => by cases h2⟩) (by decide) (by kernel_rfl) (by kernel_rfl) (by kernel_rfl) (by decide +kernel) (fun _ _ _ h => h) (by kernel_rfl) (fun W h => run_cell 3 _ ⟨wr.heap.size, 0, none⟩ _ _ rfl (by kernel_rfl) Tryz.underlying3 rfl W ((h.1.cell 0).trans rfl)) hS0 ?_
      refine two_late (i := 10) (v := .pointer (some ⟨w.heap.size, q0, none⟩)) false (by kernel_rfl) rfl (fun _ h => ⟨h.1, fun h2 => by cases h2⟩) (by decide) (by kernel_rfl) (by kernel_rfl) (by kernel_rfl) (by decide +kernel) (fun _ _ _ h => h) (by kernel_rfl) (fun W h => run_addr 210 91 16 _ _ w.heap.size q0 rfl (by kernel_rfl) (by kernel_rfl) Tryz.underlying210 (by kernel_rfl) l0 W) hS0 ?_
      refine two_early (i := 11) (v := .int .u32 (u (gw S q0))) rfl rfl (by kernel_rfl) (by decide) (by kernel_rfl) (by kernel_rfl) (by kernel_rfl) (by decide +kernel) (by kernel_rfl) (fun _ _ _ h => h) (by kernel_rfl) (fun W h => run_cell 91 _ ⟨w.heap.size, q0, none⟩ _ _ rfl (by kernel_rfl) Tryz.underlying91 rfl W ((h.2 rfl).cellW (by rw [HT.out]; exact l0))) hS0 ?_
      refine two_late (i := 12) (v := .pointer (some ⟨wr.heap.size, 1, none⟩)) false (by kernel_rfl) rfl (fun _ h => ⟨h.1, fun h2 => by cases h2⟩) (by decide) (by kernel_rfl) (by kernel_rfl) (by kernel_rfl) (by decide +kernel) (fun _ _ _ h => h) (by kernel_rfl) (fun W h => run_addr 243 3 4 _ _ wr.heap.size 1 rfl (by kernel_rfl) (by kernel_rfl) Tryz.underlying243 (by kernel_rfl) (by omega) W) hS0 ?_
      refine two_late (i := 13) (v := .int .i64 (q1 : Nat)) false (by kernel_rfl) rfl (fun _ h => ⟨h.1, fun h2 => by cases h2⟩) (by decide) (by kernel_rfl) (by kernel_rfl) (by kernel_rfl) (by decide +kernel) (fun _ _ _ h => h) (by kernel_rfl) (fun W h => run_cell 3 _ ⟨wr.heap.size, 1, none⟩ _ _ rfl (by kernel_rfl) Tryz.underlying3 rfl W ((h.1.cell 1).trans rfl)) hS0 ?_
      refine two_late (i := 14) (v := .pointer (some ⟨w.heap.size, q1, none⟩)) false (by kernel_rfl) rfl (fun _ h => ⟨h.1, fun h2 => by cases h2⟩) (by decide) (by kernel_rfl) (by kernel_rfl) (by kernel_rfl) (by decide +kernel) (fun _ _ _ h => h) (by kernel_rfl) (fun W h => run_addr 210 91 16 _ _ w.heap.size q1 rfl (by kernel_rfl) (by kernel_rfl) Tryz.underlying210 (by kernel_rfl) l1 W) hS0 ?_
      refine two_early (i := 15) (v := .int .u32 (u (gw S q1))) rfl rfl (by kernel_rfl) (by decide) (by kernel_rfl) (by kernel_rfl) (by kernel_rfl) (by decide +kernel) (by kernel_rfl) (fun _ _ _ h => h) (by kernel_rfl) (fun W h => run_cell 91 _ ⟨w.heap.size, q1, none⟩ _ _ rfl (by kernel_rfl) Tryz.underlying91 rfl W ((h.2 rfl).cellW (by rw [HT.out]; exact l1))) hS0 ?_
      refine two_late (i := 16) (v := .pointer (some ⟨wr.heap.size, 2, none⟩)) false (by kernel_rfl) rfl (fun _ h => ⟨h.1, fun h2 => by cases h2⟩) (by decide) (by kernel_rfl) (by kernel_rfl) (by kernel_rfl) (by decide +kernel) (fun _ _ _ h => h) (by kernel_rfl) (fun W h => run_addr 243 3 4 _ _ wr.heap.size 2 rfl (by kernel_rfl) (by kernel_rfl) Tryz.underlying243 (by kernel_rfl) (by omega) W) hS0 ?_
      refine two_late (i := 17) (v := .int .i64 (q2 : Nat)) false (by kernel_rfl) rfl (fun _ h => ⟨h.1, fun h2 => by cases h2⟩) (by decide) (by kernel_rfl) (by kernel_rfl) (by kernel_rfl) (by decide +kernel) (fun _ _ _ h => h) (by kernel_rfl) (fun W h => run_cell 3 _ ⟨wr.heap.size, 2, none⟩ _ _ rfl (by kernel_rfl) Tryz.underlying3 rfl W ((h.1.cell 2).trans rfl)) hS0 ?_
      refine two_late (i := 18) (v := .pointer (some ⟨w.heap.size, q2, none⟩)) false (by kernel_rfl) rfl (fun _ h => ⟨h.1, fun h2 => by cases h2⟩) (by decide) (by kernel_rfl) (by kernel_rfl) (by kernel_rfl) (by decide +kernel) (fun _ _ _ h => h) (by kernel_rfl) (fun W h => run_addr 210 91 16 _ _ w.heap.size q2 rfl (by kernel_rfl) (by kernel_rfl) Tryz.underlying210 (by kernel_rfl) l2 W) hS0 ?_
      refine two_early (i := 19) (v := .int .u32 (u (gw S q2))) rfl rfl (by kernel_rfl) (by decide) (by kernel_rfl) (by kernel_rfl) (by kernel_rfl) (by decide +kernel) (by kernel_rfl) (fun _ _ _ h => h) (by kernel_rfl) (fun W h => run_cell 91 _ ⟨w.heap.size, q2, none⟩ _ _ rfl (by kernel_rfl) Tryz.underlying91 rfl W ((h.2 rfl).cellW (by rw [HT.out]; exact l2))) hS0 ?_
      refine two_late (i := 20) (v := .pointer (some ⟨wr.heap.size, 3, none⟩)) false (by kernel_rfl) rfl (fun _ h => ⟨h.1, fun h2 => by cases h2⟩) (by decide) (by kernel_rfl) (by kernel_rfl) (by kernel_rfl) (by decide +kernel) (fun _ _ _ h => h) (by kernel_rfl) (fun W h => run_addr 243 3 4 _ _ wr.heap.size 3 rfl (by kernel_rfl) (by kernel_rfl) Tryz.underlying243 (by kernel_rfl) (by omega) W) hS0 ?_
      refine two_late (i := 21) (v := .int .i64 (q3 : Nat)) false (by kernel_rfl) rfl (fun _ h => ⟨h.1, fun h2 => by cases h2⟩) (by decide) (by kernel_rfl) (by kernel_rfl) (by kernel_rfl) (by decide +kernel) (fun _ _ _ h => h) (by kernel_rfl) (fun W h => run_cell 3 _ ⟨wr.heap.size, 3, none⟩ _ _ rfl (by kernel_rfl) Tryz.underlying3 rfl W ((h.1.cell 3).trans rfl)) hS0 ?_
      refine two_late (i := 22) (v := .pointer (some ⟨w.heap.size, q3, none⟩)) false (by kernel_rfl) rfl (fun _ h => ⟨h.1, fun h2 => by cases h2⟩) (by decide) (by kernel_rfl) (by kernel_rfl) (by kernel_rfl) (by decide +kernel) (fun _ _ _ h => h) (by kernel_rfl) (fun W h => run_addr 210 91 16 _ _ w.heap.size q3 rfl (by kernel_rfl) (by kernel_rfl) Tryz.underlying210 (by kernel_rfl) l3 W) hS0 ?_
      refine two_early (i := 23) (v := .int .u32 (u (gw S q3))) rfl rfl (by kernel_rfl) (by decide) (by kernel_rfl) (by kernel_rfl) (by kernel_rfl) (by decide +kernel) (by kernel_rfl) (fun _ _ _ h => h) (by kernel_rfl) (fun W h => run_cell 91 _ ⟨w.heap.size, q3, none⟩ _ _ rfl (by kernel_rfl) Tryz.underlying91 rfl W ((h.2 rfl).cellW (by rw [HT.out]; exact l3))) hS0 ?_
      refine two_alone (i := 24) true (by kernel_rfl) rfl (by kernel_rfl) (by kernel_rfl) ?_
      refine call_wp 173 #[.int .u32 (u (gw S q0)), .int .u32 (u (gw S q1)), .int .u32 (u (gw S q2)), .int .u32 (u (gw S q3))] (by go_simp) ?_
      refine (quarterRound_any (gw S q0) (gw S q1) (gw S q2) (gw S q3) W0).mono ?_
      rintro e1 w1 ⟨rfl, hw1⟩
      rw [hw1]
      clear hw1 w1
      refine ⟨_, rfl, ⟨A0, fun h => by cases h⟩, ?_⟩
      have hS1 : Row W0 wr.heap.size 243 #[.int .i64 (q0 : Nat), .int .i64 (q1 : Nat), .int .i64 (q2 : Nat), .int .i64 (q3 : Nat)] ∧ (true = false → Row W0 w.heap.size 210 (ws S)) := ⟨A0, fun h => by cases h⟩
      refine two_late (i := 25) (v := .tuple #[.int .u32 (u (qA (gw S q0) (gw S q1) (gw S q2) (gw S q3))), .int .u32 (u (qB (gw S q0) (gw S q1) (gw S q2) (gw S q3))), .int .u32 (u (qC (gw S q0) (gw S q1) (gw S q2) (gw S q3))), .int .u32 (u (qD (gw S q0) (gw S q1) (gw S q2) (gw S q3)))]) true (by kernel_rfl) rfl (fun _ h => ⟨h.1, fun h2 => by cases h2⟩) (by decide) (by kernel_rfl) (by kernel_rfl) (by kernel_rfl) (by decide +kernel) (fun _ _ _ h => h) (by kernel_rfl) (fun W h => run_move _ _ rfl (by kernel_rfl) W) hS1 ?_
      refine two_late (i := 26) (v := .int .u32 (u (qA (gw S q0) (gw S q1) (gw S q2) (gw S q3)))) true (by kernel_rfl) rfl (fun _ h => ⟨h.1, fun h2 => by cases h2⟩) (by decide) (by kernel_rfl) (by kernel_rfl) (by kernel_rfl) (by decide +kernel) (fun _ _ _ h => h) (by kernel_rfl) (fun W h => run_extract _ 0 #[.int .u32 (u (qA (gw S q0) (gw S q1) (gw S q2) (gw S q3))), .int .u32 (u (qB (gw S q0) (gw S q1) (gw S q2) (gw S q3))), .int .u32 (u (qC (gw S q0) (gw S q1) (gw S q2) (gw S q3))), .int .u32 (u (qD (gw S q0) (gw S q1) (gw S q2) (gw S q3)))] _ rfl (by kernel_rfl) rfl W) hS1 ?_
      refine two_late (i := 27) (v := .int .u32 (u (qB (gw S q0) (gw S q1) (gw S q2) (gw S q3)))) true (by kernel_rfl) rfl (fun _ h => ⟨h.1, fun h2 => by cases h2⟩) (by decide) (by kernel_rfl) (by kernel_rfl) (by kernel_rfl) (by decide +kernel) (fun _ _ _ h => h) (by kernel_rfl) (fun W h => run_extract _ 1 #[.int .u32 (u (qA (gw S q0) (gw S q1) (gw S q2) (gw S q3))), .int .u32 (u (qB (gw S q0) (gw S q1) (gw S q2) (gw S q3))), .int .u32 (u (qC (gw S q0) (gw S q1) (gw S q2) (gw S q3))), .int .u32 (u (qD (gw S q0) (gw S q1) (gw S q2) (gw S q3)))] _ rfl (by kernel_rfl) rfl W) hS1 ?_
      refine two_late (i := 28) (v := .int .u32 (u (qC (gw S q0) (gw S q1) (gw S q2) (gw S q3)))) true (by kernel_rfl) rfl (fun _ h => ⟨h.1, fun h2 => by cases h2⟩) (by decide) (by kernel_rfl) (by kernel_rfl) (by kernel_rfl) (by decide +kernel) (fun _ _ _ h => h) (by kernel_rfl) (fun W h => run_extract _ 2 #[.int .u32 (u (qA (gw S q0) (gw S q1) (gw S q2) (gw S q3))), .int .u32 (u (qB (gw S q0) (gw S q1) (gw S q2) (gw S q3))), .int .u32 (u (qC (gw S q0) (gw S q1) (gw S q2) (gw S q3))), .int .u32 (u (qD (gw S q0) (gw S q1) (gw S q2) (gw S q3)))] _ rfl (by kernel_rfl) rfl W) hS1 ?_
      refine two_late (i := 29) (v := .int .u32 (u (qD (gw S q0) (gw S q1) (gw S q2) (gw S q3)))) true (by kernel_rfl) rfl (fun _ h => ⟨h.1, fun h2 => by cases h2⟩) (by decide) (by kernel_rfl) (by kernel_rfl) (by kernel_rfl) (by decide +kernel) (fun _ _ _ h => h) (by kernel_rfl) (fun W h => run_extract _ 3 #[.int .u32 (u (qA (gw S q0) (gw S q1) (gw S q2) (gw S q3))), .int .u32 (u (qB (gw S q0) (gw S q1) (gw S q2) (gw S q3))), .int .u32 (u (qC (gw S q0) (gw S q1) (gw S q2) (gw S q3))), .int .u32 (u (qD (gw S q0) (gw S q1) (gw S q2) (gw S q3)))] _ rfl (by kernel_rfl) rfl W) hS1 ?_
      refine two_late (i := 30) (v := .pointer (some ⟨w.heap.size, q0, none⟩)) true (by kernel_rfl) rfl (fun _ h => ⟨h.1, fun h2 => by cases h2⟩) (by decide) (by kernel_rfl) (by kernel_rfl) (by kernel_rfl) (by decide +kernel) (fun _ _ _ h => h) (by kernel_rfl) (fun W h => run_addr 210 91 16 _ _ w.heap.size q0 rfl (by kernel_rfl) (by kernel_rfl) Tryz.underlying210 (by kernel_rfl) l0 W) ⟨A0, fun h => by cases h⟩ ?_
      refine two_store (i := 31) true (by kernel_rfl) rfl (by kernel_rfl) (by kernel_rfl) 91 _ _ ⟨w.heap.size, q0, none⟩ .u32 (u (qA (gw S q0) (gw S q1) (gw S q2) (gw S q3))) _ rfl (by kernel_rfl) (by kernel_rfl) (by kernel_rfl) (B0.cellW (by first | (rw [HT.out]; exact l0) | (simp only [List.length_set]; rw [HT.out]; exact l0))) (B0.frozen q0) ⟨A0.other (by show wr.heap.size ≠ w.heap.size; omega) _, fun h => by cases h⟩ ?_
      have A1 := A0.other (a := ⟨w.heap.size, q0, none⟩) (by show wr.heap.size ≠ w.heap.size; omega) (.int .u32 (u (qA (gw S q0) (gw S q1) (gw S q2) (gw S q3))))
      have B1 := B0.set q0 (.int .u32 (u (qA (gw S q0) (gw S q1) (gw S q2) (gw S q3))))
      rw [ws_set] at B1
      have C1 := C0.other (a := ⟨w.heap.size, q0, none⟩) (by show w.heap.size + 1 ≠ w.heap.size; omega) (.int .u32 (u (qA (gw S q0) (gw S q1) (gw S q2) (gw S q3))))
      have D1 := D0.setCell (p := ⟨w.heap.size, q0, none⟩) (Nat.le_refl _) (.int .u32 (u (qA (gw S q0) (gw S q1) (gw S q2) (gw S q3))))
      generalize W0.setCell ⟨w.heap.size, q0, none⟩ (.int .u32 (u (qA (gw S q0) (gw S q1) (gw S q2) (gw S q3)))) = W1 at *
      refine two_late (i := 32) (v := .pointer (some ⟨w.heap.size, q1, none⟩)) true (by kernel_rfl) rfl (fun _ h => ⟨h.1, fun h2 => by cases h2⟩) (by decide) (by kernel_rfl) (by kernel_rfl) (by kernel_rfl) (by decide +kernel) (fun _ _ _ h => h) (by kernel_rfl) (fun W h => run_addr 210 91 16 _ _ w.heap.size q1 rfl (by kernel_rfl) (by kernel_rfl) Tryz.underlying210 (by kernel_rfl) l1 W) ⟨A1, fun h => by cases h⟩ ?_
      refine two_store (i := 33) true (by kernel_rfl) rfl (by kernel_rfl) (by kernel_rfl) 91 _ _ ⟨w.heap.size, q1, none⟩ .u32 (u (qB (gw S q0) (gw S q1) (gw S q2) (gw S q3))) _ rfl (by kernel_rfl) (by kernel_rfl) (by kernel_rfl) (B1.cellW (by first | (rw [HT.out]; exact l1) | (simp only [List.length_set]; rw [HT.out]; exact l1))) (B1.frozen q1) ⟨A1.other (by show wr.heap.size ≠ w.heap.size; omega) _, fun h => by cases h⟩ ?_
      have A2 := A1.other (a := ⟨w.heap.size, q1, none⟩) (by show wr.heap.size ≠ w.heap.size; omega) (.int .u32 (u (qB (gw S q0) (gw S q1) (gw S q2) (gw S q3))))
      have B2 := B1.set q1 (.int .u32 (u (qB (gw S q0) (gw S q1) (gw S q2) (gw S q3))))
      rw [ws_set] at B2
      have C2 := C1.other (a := ⟨w.heap.size, q1, none⟩) (by show w.heap.size + 1 ≠ w.heap.size; omega) (.int .u32 (u (qB (gw S q0) (gw S q1) (gw S q2) (gw S q3))))
      have D2 := D1.setCell (p := ⟨w.heap.size, q1, none⟩) (Nat.le_refl _) (.int .u32 (u (qB (gw S q0) (gw S q1) (gw S q2) (gw S q3))))
      generalize W1.setCell ⟨w.heap.size, q1, none⟩ (.int .u32 (u (qB (gw S q0) (gw S q1) (gw S q2) (gw S q3)))) = W2 at *
      refine two_late (i := 34) (v := .pointer (some ⟨w.heap.size, q2, none⟩)) true (by kernel_rfl) rfl (fun _ h => ⟨h.1, fun h2 => by cases h2⟩) (by decide) (by kernel_rfl) (by kernel_rfl) (by kernel_rfl) (by decide +kernel) (fun _ _ _ h => h) (by kernel_rfl) (fun W h => run_addr 210 91 16 _ _ w.heap.size q2 rfl (by kernel_rfl) (by kernel_rfl) Tryz.underlying210 (by kernel_rfl) l2 W) ⟨A2, fun h => by cases h⟩ ?_
      refine two_store (i := 35) true (by kernel_rfl) rfl (by kernel_rfl) (by kernel_rfl) 91 _ _ ⟨w.heap.size, q2, none⟩ .u32 (u (qC (gw S q0) (gw S q1) (gw S q2) (gw S q3))) _ rfl (by kernel_rfl) (by kernel_rfl) (by kernel_rfl) (B2.cellW (by first | (rw [HT.out]; exact l2) | (simp only [List.length_set]; rw [HT.out]; exact l2))) (B2.frozen q2) ⟨A2.other (by show wr.heap.size ≠ w.heap.size; omega) _, fun h => by cases h⟩ ?_
      have A3 := A2.other (a := ⟨w.heap.size, q2, none⟩) (by show wr.heap.size ≠ w.heap.size; omega) (.int .u32 (u (qC (gw S q0) (gw S q1) (gw S q2) (gw S q3))))
      have B3 := B2.set q2 (.int .u32 (u (qC (gw S q0) (gw S q1) (gw S q2) (gw S q3))))
      rw [ws_set] at B3
      have C3 := C2.other (a := ⟨w.heap.size, q2, none⟩) (by show w.heap.size + 1 ≠ w.heap.size; omega) (.int .u32 (u (qC (gw S q0) (gw S q1) (gw S q2) (gw S q3))))
      have D3 := D2.setCell (p := ⟨w.heap.size, q2, none⟩) (Nat.le_refl _) (.int .u32 (u (qC (gw S q0) (gw S q1) (gw S q2) (gw S q3))))
      generalize W2.setCell ⟨w.heap.size, q2, none⟩ (.int .u32 (u (qC (gw S q0) (gw S q1) (gw S q2) (gw S q3)))) = W3 at *
      refine two_late (i := 36) (v := .pointer (some ⟨w.heap.size, q3, none⟩)) true (by kernel_rfl) rfl (fun _ h => ⟨h.1, fun h2 => by cases h2⟩) (by decide) (by kernel_rfl) (by kernel_rfl) (by kernel_rfl) (by decide +kernel) (fun _ _ _ h => h) (by kernel_rfl) (fun W h => run_addr 210 91 16 _ _ w.heap.size q3 rfl (by kernel_rfl) (by kernel_rfl) Tryz.underlying210 (by kernel_rfl) l3 W) ⟨A3, fun h => by cases h⟩ ?_
      refine two_store (i := 37) true (by kernel_rfl) rfl (by kernel_rfl) (by kernel_rfl) 91 _ _ ⟨w.heap.size, q3, none⟩ .u32 (u (qD (gw S q0) (gw S q1) (gw S q2) (gw S q3))) _ rfl (by kernel_rfl) (by kernel_rfl) (by kernel_rfl) (B3.cellW (by first | (rw [HT.out]; exact l3) | (simp only [List.length_set]; rw [HT.out]; exact l3))) (B3.frozen q3) ⟨A3.other (by show wr.heap.size ≠ w.heap.size; omega) _, fun h => by cases h⟩ ?_
      have A4 := A3.other (a := ⟨w.heap.size, q3, none⟩) (by show wr.heap.size ≠ w.heap.size; omega) (.int .u32 (u (qD (gw S q0) (gw S q1) (gw S q2) (gw S q3))))
      have B4 := B3.set q3 (.int .u32 (u (qD (gw S q0) (gw S q1) (gw S q2) (gw S q3))))
      rw [ws_set] at B4
      have C4 := C3.other (a := ⟨w.heap.size, q3, none⟩) (by show w.heap.size + 1 ≠ w.heap.size; omega) (.int .u32 (u (qD (gw S q0) (gw S q1) (gw S q2) (gw S q3))))
      have D4 := D3.setCell (p := ⟨w.heap.size, q3, none⟩) (Nat.le_refl _) (.int .u32 (u (qD (gw S q0) (gw S q1) (gw S q2) (gw S q3))))
      generalize W3.setCell ⟨w.heap.size, q3, none⟩ (.int .u32 (u (qD (gw S q0) (gw S q1) (gw S q2) (gw S q3)))) = W4 at *
      refine two_done (by kernel_rfl) ?_ _
      --}
      clear A0 B0 C0 D0 A1 B1 C1 D1 A2 B2 C2 D2 A3 B3 C3 D3 r0 r1 hbel hS0 hS1
      go_wp2
      go_roundw
      case rel => exact ⟨k + 1, by omega, by go_num, by rw [HE.out]; exact B4, C4, D4⟩
      case measure => simp [intOf]; omega
    · obtain rfl : k = 8 := by omega
      have hl0 := r0.lt
      go_wp2_with (first
        | (refine load_row rfl 210 _ rfl w.heap.size rfl _ _ r0 16 91 Tryz.underlying210 (by kernel_rfl) (by rw [ws_size, twoTo_length, HS.out]) ?_)
        | (refine store_row rfl 210 _ _ rfl (w.heap.size + 1) (ws (twoTo s 8)) rfl rfl _ _ r1 16 (by kernel_rfl) (by rw [ws_size, List.length_replicate]) (by rw [ws_size, twoTo_length, HS.out]) (ws_one _) ?_))
      refine bodyPost_ret (result_row rfl _ _ (w.heap.size + 1) _ _ (r1.put _) 16 91 rfl Tryz.underlying210 (by kernel_rfl) (by rw [ws_size, twoTo_length, HS.out])) rfl ⟨rfl, bSetRow hbel (by omega) _⟩
end Go.Proofs.YtbheoldakmcppaaGreatDoor
