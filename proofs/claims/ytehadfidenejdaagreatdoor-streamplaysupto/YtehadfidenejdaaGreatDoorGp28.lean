/-
  Written by mksnrfk.py: the document's sender: the next frame.
-/
import Derived.Test.YtehadfidenejdaaGreatDoorGp27
namespace Go.Proofs.YtehadfidenejdaaGreatDoor
open Go Go.RowKit

namespace Sr
open Sd
/-- What the document's Take answers. -/
def RTakeP (w w' : World) (h : Nat) (s : Snd) (own : Nat → Prop) (n : Int) (fr : Nat) (e : Ending) : Prop :=
  match span s n fr with
  | none => e = .returned (.tuple #[.agg fr0, .bool false]) ∧ RfS w' h s own ∧ Below w.heap.size w w'
  | some (p, q) => ∃ d, e = .returned (.tuple #[.agg (frD s.id p (finB s q) d), .bool true]) ∧ RowO w' 5 1 d (q - p) (vb (Sd.cut s.b p q)) ∧ (∀ k, d.ownBlock = some k → w.heap.size ≤ k) ∧ RfS w' h (tell s p q) own ∧ After own w w' own
theorem toldR_tell {s : Snd} {p q : Nat} (hq : q ≤ s.fresh) : toldR s p q = tell s p q := by
  unfold toldR tell
  rw [Nat.max_eq_left hq]
theorem toldR_fresh {s : Snd} {p q : Nat} (hq : s.fresh ≤ q) : toldR { s with fresh := q } p q = tell s p q := by
  unfold toldR tell
  rw [Nat.max_eq_right hq]
theorem refToldF_any {w : World} {h : Nat} {bv hv : Value} {s : Snd} {q : Nat} (x : RfR w h bv hv { s with fresh := q }) (hln : s.b.length ≤ 1048576) (hpq : s.fresh ≤ q) (hq : q ≤ s.b.length) :
    Calls Tryz.prog 40 #[.pointer (some ⟨h, 0, none⟩), .int .i64 (s.fresh : Int), .int .i64 (q : Int)] w fun e w' => ∃ d, e = .returned (.agg (frD s.id s.fresh (finB s q) d)) ∧ RowO w' 5 1 d (q - s.fresh) (vb (Sd.cut s.b s.fresh q)) ∧ (∀ k, d.ownBlock = some k → w.heap.size ≤ k) ∧ RfR w' h bv hv (tell s s.fresh q) ∧ KeepP (OwnR h bv hv) w w' := by
  have := refTold_any x hln s.fresh q hpq hq
  rw [toldR_fresh hpq] at this
  exact this
theorem first_lt (h : Nat → Nat) (k : Nat) : first h 0 k < k ↔ ∃ j, j < k ∧ h j = 2 := by
  constructor
  · intro e
    exact ⟨_, e, first_some h k 0 (by omega)⟩
  · rintro ⟨j, e1, e2⟩
    refine Nat.lt_of_le_of_lt (Nat.le_of_not_lt fun e => ?_) e1
    exact first_none h k 0 j (Nat.zero_le _) e e2
theorem more_is {s : Snd} {n fr m1 m2 : Nat} (h1 : min (s.b.length - s.fresh) n = m1) (h2 : min m1 fr = m2) : more s (n : Int) fr = min m2 (s.credit - s.fresh) := by
  unfold more
  rw [Int.toNat_natCast, h1, h2]
theorem span_more {s : Snd} {n : Int} {fr m : Nat} (hr : s.reset = false) (hn : ¬ n < 0) (hf : ¬ (0 < n ∧ first s.how 0 s.fresh < s.fresh)) (hm : more s n fr = m) (h0 : 0 < m) : span s n fr = some (s.fresh, s.fresh + m) := by
  unfold span
  rw [if_neg (by rw [hr]; simpa using hn), if_neg hf, hm, if_pos h0]
theorem span_end {s : Snd} {n : Int} {fr : Nat} (hr : s.reset = false) (hn : ¬ n < 0) (hf : ¬ (0 < n ∧ first s.how 0 s.fresh < s.fresh)) (hm : more s n fr = 0) : span s n fr = if s.last = true ∧ s.fresh = s.b.length ∧ ¬ first s.how 0 s.fresh < s.fresh ∧ (s.fin = 0 ∨ s.fin = 2) then some (s.b.length, s.b.length) else none := by
  unfold span
  rw [if_neg (by rw [hr]; simpa using hn), if_neg hf, hm, if_neg (Nat.lt_irrefl 0)]
/-- What stands behind a frame that was told. -/
theorem take_end {w W W' : World} {h fb : Nat} {bv hv d : Value} {s' : Snd} {own : Nat → Prop} {n : Nat} {xs : List Value} (hR : RfR W h bv hv s') (hf : Fine s') (hD : RowO W 5 1 d n xs) (k1 : KeepP (OwnR h bv hv) w W) (k2 : KeepP (fun k => k = fb) W W') (hfb : w.heap.size ≤ fb) (tf : Ty W fb 28)
    (h2 : ∀ k, OwnR h bv hv k → own k) (h3 : ∀ k, own k → k < w.heap.size) : RowO W' 5 1 d n xs ∧ RfS W' h s' own ∧ After own w W' own := by
  have kp : KeepP (OwnR h bv hv) w W' := onto k1 k2 (fun q hq e => by omega)
  have ok : RfOk W h bv hv s' := ⟨hR.row, hR.brow, hR.hrow, hf⟩
  refine ⟨hD.same (fun k e => k2.block k (hD.lt k e) (fun z => (Ty.row hD e).ne tf (by decide) z)), ⟨bv, hv, ok.same (fun k e => k2.block k (ok.lt k e) (fun z => ?_)), h2, fun k e => Nat.lt_of_lt_of_le (h3 k e) kp.size⟩, kp.mono h2, fun k e => .inl e⟩
  rcases e with e | e | e
  · exact (e ▸ ok.tr).ne tf (by decide) z
  · exact (ok.tb e).ne tf (by decide) z
  · exact (ok.th e).ne tf (by decide) z
set_option maxHeartbeats 4000000 in
set_option maxRecDepth 20000 in
theorem refTake_no {w : World} {h : Nat} {s : Snd} {own : Nat → Prop} (x : RfS w h s own) (n : Int) (fr : Nat) (hno : s.reset = true ∨ n < 0) :
    Calls Tryz.prog 16 #[.pointer (some ⟨h, 0, none⟩), .int .i64 n, .int .u64 (fr : Int)] w fun e w' => RTakeP w w' h s own n fr e := by
  have hsp : span s n fr = none := by unfold span; rw [if_pos hno]
  unfold RTakeP
  rw [hsp]
  simp only
  have hb0 : Below w.heap.size w (w.alloc (.cells fr0 28)) := (Below.refl _ w).alloc (Nat.le_refl _) _
  have r6 : Row (w.alloc (.cells fr0 28)) w.heap.size 28 fr0 := Row.new _ _ _
  have HS := veil x
  obtain ⟨bv, hv, h1, h2, h3⟩ := x
  have c7 := (h1.below hb0).row.cell 7
  unfold rfC at c7
  unfold fr0 at r6 hb0 c7 ⊢
  have R6 := veil r6
  have HB0 := veil hb0
  clear h1 h2 h3 hsp r6 hb0
  by_cases hr : s.reset = true
  · rw [hr] at c7
    clear hno hr
    go_enter Tryz.func16, Tryz.ntmps16
    go_wp2_with fail
    generalize w.alloc (.cells #[.int .u8 0, .int .u64 0, .int .u64 0, .int .u64 0, .int .u64 0, .bool false, .slice none 0 0, .slice none 0 0] 28) = w0 at *
    have rr0 : w0.cell? ⟨w.heap.size, 0, none⟩ = some (.int .u8 0) := R6.out.cell 0
    have rr1 : w0.cell? ⟨w.heap.size, 1, none⟩ = some (.int .u64 0) := R6.out.cell 1
    have rr2 : w0.cell? ⟨w.heap.size, 2, none⟩ = some (.int .u64 0) := R6.out.cell 2
    have rr3 : w0.cell? ⟨w.heap.size, 3, none⟩ = some (.int .u64 0) := R6.out.cell 3
    have rr4 : w0.cell? ⟨w.heap.size, 4, none⟩ = some (.int .u64 0) := R6.out.cell 4
    have rr5 : w0.cell? ⟨w.heap.size, 5, none⟩ = some (.bool false) := R6.out.cell 5
    have rr6 : w0.cell? ⟨w.heap.size, 6, none⟩ = some (.slice none 0 0) := R6.out.cell 6
    have rr7 : w0.cell? ⟨w.heap.size, 7, none⟩ = some (.slice none 0 0) := R6.out.cell 7
    have ff0 : w0.frozen? ⟨w.heap.size, 0, none⟩ = false := R6.out.frozen 0
    have ff1 : w0.frozen? ⟨w.heap.size, 1, none⟩ = false := R6.out.frozen 1
    have ff2 : w0.frozen? ⟨w.heap.size, 2, none⟩ = false := R6.out.frozen 2
    have ff3 : w0.frozen? ⟨w.heap.size, 3, none⟩ = false := R6.out.frozen 3
    have ff4 : w0.frozen? ⟨w.heap.size, 4, none⟩ = false := R6.out.frozen 4
    have ff5 : w0.frozen? ⟨w.heap.size, 5, none⟩ = false := R6.out.frozen 5
    have ff6 : w0.frozen? ⟨w.heap.size, 6, none⟩ = false := R6.out.frozen 6
    have ff7 : w0.frozen? ⟨w.heap.size, 7, none⟩ = false := R6.out.frozen 7
    go_wp2_with fail
    refine bodyPost_ret (result_two rfl _ _ w.heap.size 28 _ R6.out 8 _ _ rfl rfl Tryz.underlying28 (by kernel_rfl) rfl) rfl ⟨rfl, ?_⟩
    exact ⟨HS.out.below HB0.out, HB0.out⟩
  · rw [show s.reset = false by simpa using hr] at c7
    have n1 : n < 0 := hno.resolve_left hr
    clear hno hr
    go_enter Tryz.func16, Tryz.ntmps16
    go_wp2_with fail
    generalize w.alloc (.cells #[.int .u8 0, .int .u64 0, .int .u64 0, .int .u64 0, .int .u64 0, .bool false, .slice none 0 0, .slice none 0 0] 28) = w0 at *
    have rr0 : w0.cell? ⟨w.heap.size, 0, none⟩ = some (.int .u8 0) := R6.out.cell 0
    have rr1 : w0.cell? ⟨w.heap.size, 1, none⟩ = some (.int .u64 0) := R6.out.cell 1
    have rr2 : w0.cell? ⟨w.heap.size, 2, none⟩ = some (.int .u64 0) := R6.out.cell 2
    have rr3 : w0.cell? ⟨w.heap.size, 3, none⟩ = some (.int .u64 0) := R6.out.cell 3
    have rr4 : w0.cell? ⟨w.heap.size, 4, none⟩ = some (.int .u64 0) := R6.out.cell 4
    have rr5 : w0.cell? ⟨w.heap.size, 5, none⟩ = some (.bool false) := R6.out.cell 5
    have rr6 : w0.cell? ⟨w.heap.size, 6, none⟩ = some (.slice none 0 0) := R6.out.cell 6
    have rr7 : w0.cell? ⟨w.heap.size, 7, none⟩ = some (.slice none 0 0) := R6.out.cell 7
    have ff0 : w0.frozen? ⟨w.heap.size, 0, none⟩ = false := R6.out.frozen 0
    have ff1 : w0.frozen? ⟨w.heap.size, 1, none⟩ = false := R6.out.frozen 1
    have ff2 : w0.frozen? ⟨w.heap.size, 2, none⟩ = false := R6.out.frozen 2
    have ff3 : w0.frozen? ⟨w.heap.size, 3, none⟩ = false := R6.out.frozen 3
    have ff4 : w0.frozen? ⟨w.heap.size, 4, none⟩ = false := R6.out.frozen 4
    have ff5 : w0.frozen? ⟨w.heap.size, 5, none⟩ = false := R6.out.frozen 5
    have ff6 : w0.frozen? ⟨w.heap.size, 6, none⟩ = false := R6.out.frozen 6
    have ff7 : w0.frozen? ⟨w.heap.size, 7, none⟩ = false := R6.out.frozen 7
    go_wp2_with fail
    refine bodyPost_ret (result_two rfl _ _ w.heap.size 28 _ R6.out 8 _ _ rfl rfl Tryz.underlying28 (by kernel_rfl) rfl) rfl ⟨rfl, ?_⟩
    exact ⟨HS.out.below HB0.out, HB0.out⟩
end Sr
end Go.Proofs.YtehadfidenejdaaGreatDoor
