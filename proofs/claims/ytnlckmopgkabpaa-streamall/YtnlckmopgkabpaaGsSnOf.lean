/-
  Written by mksnof.py: what a frame tells of a sender: frames that are not of its stream.
-/
import Derived.Test.YtnlckmopgkabpaaGs16
import Derived.Test.YtnlckmopgkabpaaGs4
namespace Go.Proofs.Ytnlckmopgkabpaa
open Go Go.RowKit

namespace Sr
open Sd
/-- Is it a frame of this sender's stream, ahead of its bytes. -/
def headB (s : Snd) (f : FrM) : Bool := f.kind == 7 && f.stream == s.id && f.limit == 0 && f.code == 0 && f.ranges.len == 0
theorem of_start {w : World} (F : Array Value) : Below w.heap.size w ((w.alloc (.cells F 37)).alloc (.cells #[.int .u64 0, .int .u64 0] 60)) ∧ Row ((w.alloc (.cells F 37)).alloc (.cells #[.int .u64 0, .int .u64 0] 60)) w.heap.size 37 F ∧ Row ((w.alloc (.cells F 37)).alloc (.cells #[.int .u64 0, .int .u64 0] 60)) (w.heap.size + 1) 60 #[.int .u64 0, .int .u64 0] := by
  refine ⟨((Below.refl _ w).alloc (Nat.le_refl _) _).alloc (by show w.heap.size ≤ (w.alloc _).heap.size; simp) _, (Row.new w _ _).alloc _, ?_⟩
  have h := Row.new (w.alloc (.cells F 37)) 60 #[.int .u64 0, .int .u64 0]
  rw [World.size_alloc] at h
  exact h
set_option maxHeartbeats 2000000 in
set_option maxRecDepth 20000 in
theorem of_no {w : World} {g : Nat} {wr cm ls : Value} {s : Snd} {C L : List Rn} (h : SnOk w g wr cm ls s C L) (f : FrM) (hno : headB s f = false) :
    Calls Try.prog 38 #[.pointer (some ⟨g, 0, none⟩), .agg f.cells] w fun e w' => e = .returned (.tuple #[rcA (0, 0), .bool false]) ∧ Below w.heap.size w w' := by
  obtain ⟨hb0, q1, q2⟩ := of_start (w := w) f.cells
  have c1 := (h.below hb0).row.cell 1
  unfold snC at c1
  unfold headB at hno
  obtain ⟨kd, st, of_, li, co, fi, ⟨da, dl, dc, dg, do_, db⟩, ⟨ra, rl, rc, rg, ro, rb⟩⟩ := f
  unfold FrM.cells at *
  simp only at *
  obtain ⟨id, hid⟩ : ∃ id, s.id = id := ⟨_, rfl⟩
  rw [hid] at c1 hno
  have HB := veil hb0
  have Q1 := veil q1
  have Q2 := veil q2
  clear h hb0 q1 q2 hid
  go_enter Try.func38, Try.ntmps38
  go_wp2_with fail
  generalize ((w.alloc (.cells #[.int .u8 (kd : Int), .int .u64 (st : Int), .int .u64 (of_ : Int), .int .u64 (li : Int), .int .u64 (co : Int), .bool fi, .slice da dl dc, .slice ra rl rc] 37)).alloc (.cells #[.int .u64 0, .int .u64 0] 60)) = w0 at *
  have k0 := Q1.out.cell 0
  have k1 := Q1.out.cell 1
  have k3 := Q1.out.cell 3
  have k4 := Q1.out.cell 4
  have k7 := Q1.out.cell 7
  have r0 := Q2.out.cell 0
  have r1 := Q2.out.cell 1
  have f0 := Q2.out.frozen 0
  have f1 := Q2.out.frozen 1
  by_cases c0 : kd = 7
  rotate_left
  · have n0 : ((kd : Int) != 7) = true := by rw [bne_iff_ne]; omega
    clear hno c0
    go_quiet (fail)
    go_wp2_with fail
    have Q3 := Q2.out.below (below_drewN (Below.refl _ w0) nq) Q2.out.lt
    refine bodyPost_ret (result_two rfl _ _ (w.heap.size + 1) 60 _ ((Q3.set 0 _).set 1 _) 2 _ _ rfl rfl Try.underlying60 (by kernel_rfl) rfl) rfl ⟨rfl, ?_⟩
    have hle : w.heap.size ≤ w.heap.size + 1 := Nat.le_succ _
    exact ((HB.out.trans ((below_drewN (Below.refl _ w0) nq).mono HB.out.size)).setCell (p := ⟨w.heap.size + 1, 0, none⟩) hle _).setCell (p := ⟨w.heap.size + 1, 1, none⟩) hle _
  have n0 : ((kd : Int) != 7) = false := by rw [bne_eq_false_iff_eq]; omega
  by_cases cST : st = id
  rotate_left
  · have n1 : ((st : Int) != (id : Int)) = true := by rw [bne_iff_ne]; omega
    clear hno cST
    go_quiet (fail)
    go_wp2_with fail
    have Q3 := Q2.out.below (below_drewN (Below.refl _ w0) nq) Q2.out.lt
    refine bodyPost_ret (result_two rfl _ _ (w.heap.size + 1) 60 _ ((Q3.set 0 _).set 1 _) 2 _ _ rfl rfl Try.underlying60 (by kernel_rfl) rfl) rfl ⟨rfl, ?_⟩
    have hle : w.heap.size ≤ w.heap.size + 1 := Nat.le_succ _
    exact ((HB.out.trans ((below_drewN (Below.refl _ w0) nq).mono HB.out.size)).setCell (p := ⟨w.heap.size + 1, 0, none⟩) hle _).setCell (p := ⟨w.heap.size + 1, 1, none⟩) hle _
  have n1 : ((st : Int) != (id : Int)) = false := by rw [bne_eq_false_iff_eq]; omega
  by_cases c2 : li = 0
  rotate_left
  · have n2 : ((li : Int) != 0) = true := by rw [bne_iff_ne]; omega
    clear hno c2
    go_quiet (fail)
    go_wp2_with fail
    have Q3 := Q2.out.below (below_drewN (Below.refl _ w0) nq) Q2.out.lt
    refine bodyPost_ret (result_two rfl _ _ (w.heap.size + 1) 60 _ ((Q3.set 0 _).set 1 _) 2 _ _ rfl rfl Try.underlying60 (by kernel_rfl) rfl) rfl ⟨rfl, ?_⟩
    have hle : w.heap.size ≤ w.heap.size + 1 := Nat.le_succ _
    exact ((HB.out.trans ((below_drewN (Below.refl _ w0) nq).mono HB.out.size)).setCell (p := ⟨w.heap.size + 1, 0, none⟩) hle _).setCell (p := ⟨w.heap.size + 1, 1, none⟩) hle _
  have n2 : ((li : Int) != 0) = false := by rw [bne_eq_false_iff_eq]; omega
  by_cases c3 : co = 0
  rotate_left
  · have n3 : ((co : Int) != 0) = true := by rw [bne_iff_ne]; omega
    clear hno c3
    go_quiet (fail)
    go_wp2_with fail
    have Q3 := Q2.out.below (below_drewN (Below.refl _ w0) nq) Q2.out.lt
    refine bodyPost_ret (result_two rfl _ _ (w.heap.size + 1) 60 _ ((Q3.set 0 _).set 1 _) 2 _ _ rfl rfl Try.underlying60 (by kernel_rfl) rfl) rfl ⟨rfl, ?_⟩
    have hle : w.heap.size ≤ w.heap.size + 1 := Nat.le_succ _
    exact ((HB.out.trans ((below_drewN (Below.refl _ w0) nq).mono HB.out.size)).setCell (p := ⟨w.heap.size + 1, 0, none⟩) hle _).setCell (p := ⟨w.heap.size + 1, 1, none⟩) hle _
  have n3 : ((co : Int) != 0) = false := by rw [bne_eq_false_iff_eq]; omega
  have c4 : rl ≠ 0 := by
    intro e
    rw [Bool.eq_false_iff] at hno
    apply hno
    simp [c0, cST, c2, c3, e]
  have n4 : (0 : Int) < (rl : Int) := by omega
  clear hno c0 cST c2 c3 c4
  go_quiet (fail)
  go_wp2_with fail
  have Q3 := Q2.out.below (below_drewN (Below.refl _ w0) nq) Q2.out.lt
  refine bodyPost_ret (result_two rfl _ _ (w.heap.size + 1) 60 _ ((Q3.set 0 _).set 1 _) 2 _ _ rfl rfl Try.underlying60 (by kernel_rfl) rfl) rfl ⟨rfl, ?_⟩
  have hle : w.heap.size ≤ w.heap.size + 1 := Nat.le_succ _
  exact ((HB.out.trans ((below_drewN (Below.refl _ w0) nq).mono HB.out.size)).setCell (p := ⟨w.heap.size + 1, 0, none⟩) hle _).setCell (p := ⟨w.heap.size + 1, 1, none⟩) hle _
end Sr
end Go.Proofs.Ytnlckmopgkabpaa
