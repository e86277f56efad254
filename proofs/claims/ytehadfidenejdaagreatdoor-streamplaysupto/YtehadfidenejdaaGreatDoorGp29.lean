/-
  Written by mksnrfk.py: the document's sender: the next frame, of a sender that was not reset.
-/
import Derived.Test.YtehadfidenejdaaGreatDoorGp28
import Derived.Deep.CutRange
namespace Go.Proofs.YtehadfidenejdaaGreatDoor
open Go Go.RowKit

namespace Sr
open Sd
/-- Told at its end. -/
structure RTo (q W : World) (h : Nat) (bv hv : Value) (s : Snd) (d : Value) : Prop where
  row : RowO W 5 1 d (s.b.length - s.b.length) (vb (Sd.cut s.b s.b.length s.b.length))
  new : ∀ k, d.ownBlock = some k → q.heap.size ≤ k
  rfr : RfR W h bv hv (tell s s.b.length s.b.length)
  keep : KeepP (OwnR h bv hv) q W
def RRk (q : World) (h : Nat) (bv hv : Value) (s : Snd) (fb : Nat) : Nat → World → Value → Prop
  | 0, W, _ => W = q
  | 1, W, u => ∃ d, u = .agg (frD s.id s.b.length (finB s s.b.length) d) ∧ RTo q W h bv hv s d
  | _, W, _ => ∃ (d : Value) (W1 : World), RTo q W1 h bv hv s d ∧ W = W1.setRow fb (frD s.id s.b.length (finB s s.b.length) d)
theorem RRk.one {q W : World} {h : Nat} {bv hv d : Value} {s : Snd} {fb : Nat} (x : RTo q W h bv hv s d) : RRk q h bv hv s fb 1 W (.agg (frD s.id s.b.length (finB s s.b.length) d)) := ⟨d, rfl, x⟩
theorem RRk.zero {q : World} {h : Nat} {bv hv : Value} {s : Snd} {fb k : Nat} {W : World} {u : Value} (x : RRk q h bv hv s fb k W u) (hk : k ≤ 0) : W = q := by
  obtain rfl : k = 0 := by omega
  exact x
def depKt : Nat → List Nat
  | 0 => []
  | 1 => []
  | 2 => [1]
  | 3 => [2]
  | 4 => [3]
  | 5 => [4]
  | 6 => []
  | 7 => [6]
  | 8 => [7]
  | 9 => [8]
  | 10 => [9]
  | 11 => [0, 5, 10]
  | 12 => [11]
  | 13 => []
  | _ => []
def dclKt : Nat → List Nat
  | 2 => [1]
  | 3 => [1, 2]
  | 4 => [1, 2, 3]
  | 5 => [1, 2, 3, 4]
  | 7 => [6]
  | 8 => [6, 7]
  | 9 => [6, 7, 8]
  | 10 => [6, 7, 8, 9]
  | 11 => [0, 1, 2, 3, 4, 5, 6, 7, 8, 9, 10]
  | 12 => [0, 1, 2, 3, 4, 5, 6, 7, 8, 9, 10, 11]
  | _ => []
def valKt (h : Nat) (ba : Option Addr) (bc : Nat) (s : Snd) : Nat → Value
  | 0 => .pointer (some ⟨h, 0, none⟩)
  | 1 => .pointer (some ⟨h, 0, none⟩)
  | 2 => .pointer (some ⟨h, 0, none⟩)
  | 3 => .pointer (some ⟨h, 2, none⟩)
  | 4 => .slice ba s.b.length bc
  | 5 => .int .i64 (s.b.length : Int)
  | 6 => .pointer (some ⟨h, 0, none⟩)
  | 7 => .pointer (some ⟨h, 0, none⟩)
  | 8 => .pointer (some ⟨h, 2, none⟩)
  | 9 => .slice ba s.b.length bc
  | 10 => .int .i64 (s.b.length : Int)
  | 13 => .bool true
  | _ => undef

set_option maxHeartbeats 8000000 in
set_option maxRecDepth 100000 in
theorem refTake_live {w : World} {h : Nat} {s : Snd} {own : Nat → Prop} (x : RfS w h s own) (n fr : Nat) (hn : n ≤ 9223372036854775807) (hfr : fr ≤ 18446744073709551615) (hr : s.reset = false) :
    Calls Tryz.prog 16 #[.pointer (some ⟨h, 0, none⟩), .int .i64 (n : Int), .int .u64 (fr : Int)] w fun e w' => RTakeP w w' h s own (n : Int) fr e := by
  have hb0 : Below w.heap.size w (w.alloc (.cells fr0 28)) := (Below.refl _ w).alloc (Nat.le_refl _) _
  have r6 : Row (w.alloc (.cells fr0 28)) w.heap.size 28 fr0 := Row.new _ _ _
  have HS := veil x
  obtain ⟨bv, hv, h1, h2, h3⟩ := x
  have H0 := h1.below hb0
  have c7 := H0.row.cell 7
  unfold rfC at c7
  rw [hr] at c7
  have OK := veil H0
  have HOW := veil (show (∀ k, OwnR h bv hv k → own k) ∧ (∀ k, own k → k < w.heap.size) from ⟨h2, h3⟩)
  have HRS := veil hr
  have HFI := veil h1.fine
  have R6 := veil r6
  have HB0 := veil hb0
  unfold fr0 at c7
  have hfl := h1.fine.fr
  have hln := h1.fine.len
  have HLN := veil (show s.fresh ≤ s.b.length ∧ s.b.length ≤ 1048576 from ⟨hfl, hln⟩)
  have hfm : s.fresh ≤ 1048576 := by omega
  have nn : ¬ (n : Int) < 0 := by omega
  clear h1 h2 h3 H0 hr r6 hb0 hfl hln
  go_enter Tryz.func16, Tryz.ntmps16
  go_wp2_with fail
  obtain ⟨w0, hw0⟩ : ∃ w0, w.alloc (.cells fr0 28) = w0 := ⟨_, rfl⟩
  rw [hw0] at OK R6 HB0
  replace hw0 : w.alloc (.cells #[.int .u8 0, .int .u64 0, .int .u64 0, .int .u64 0, .int .u64 0, .bool false, .slice none 0 0, .slice none 0 0] 28) = w0 := hw0
  rw [hw0]
  clear hw0 c7
  have c3 := OK.out.row.cell 3
  have c4 := OK.out.row.cell 4
  unfold rfC at c3 c4
  obtain ⟨va, vc, hve, _, _⟩ := OK.out.hrow.shape
  rw [hve] at c3
  go_loopw [8, 9] (fun av iv wr => ∃ (i : Nat) (b : Bool), i ≤ s.fresh ∧ iv = .int .i64 (i : Int) ∧ av = .bool b ∧ (b = true ↔ ∃ j, j < i ∧ s.how j = 2) ∧ (0 < n → b = false) ∧ w0 = wr)
    (fun _ iv _ => s.fresh - (intOf iv).toNat)
  case atStart => exact ⟨0, false, Nat.zero_le _, rfl, rfl, ⟨fun e => (by cases e), fun ⟨j, e, _⟩ => absurd e (Nat.not_lt_zero _)⟩, fun _ => rfl, rfl⟩
  case round =>
    obtain ⟨i, b, hi, rfl, rfl, hb, hnb, hwr⟩ := hrel
    subst hwr
    by_cases hlt : i < s.fresh
    · have hj : i < s.b.length := by have := HLN.out; omega
      have hrw := OK.out.hrow
      rw [hve] at hrw
      obtain ⟨hg, ho, hva, ck⟩ := hrw.cells i _ (vh_get _ _ _ hj)
      rw [hva] at c3
      have bI : (i : Int) < (s.fresh : Int) := by omega
      have bJ : (i : Int) < (s.b.length : Int) := by omega
      have HLT := veil hlt
      have hi2 : i < 1048577 := by omega
      by_cases h2 : s.how i = 2
      · rw [h2] at ck
        have HH2 := veil h2
        have HBN := veil (show (b = true ↔ ∃ j, j < i ∧ s.how j = 2) ∧ (0 < n → b = false) from ⟨hb, hnb⟩)
        clear hlt hj h2 hb hnb hi
        go_wp2_with fail
        clear ck
        go_loopw [10] (fun tv wr => ∃ t : Nat, i ≤ t ∧ t ≤ s.fresh ∧ t - i ≤ n ∧ tv = .int .i64 (t : Int) ∧ (∀ j, i ≤ j → j < t → s.how j = 2) ∧ w0 = wr)
          (fun tv _ => s.fresh - (intOf tv).toNat)
        case atStart => exact ⟨i, Nat.le_refl _, Nat.le_of_lt HLT.out, by omega, rfl, fun j h1 h2 => by omega, rfl⟩
        case round =>
          obtain ⟨t, ht1, ht2, ht3, rfl, hall, hwr⟩ := hrel
          subst hwr
          by_cases hgo : t < s.fresh ∧ s.how t = 2 ∧ t - i < n
          · obtain ⟨g1, g2, g3⟩ := hgo
            have hj : t < s.b.length := by have := HLN.out; omega
            obtain ⟨hg', ho', hva', ck⟩ := hrw.cells t _ (vh_get _ _ _ hj)
            rw [hva] at hva'
            injection hva' with hva'
            injection hva' with e1 e2
            rw [← e1, ← e2, g2] at ck
            have bT : (t : Int) < (s.fresh : Int) := by omega
            have bU : (t : Int) < (s.b.length : Int) := by omega
            have wt : IntKind.i64.wrap ((t : Int) - (i : Int)) = ((t - i : Nat) : Int) := by rw [IntKind.wrap_i64]; omega
            have bN : ((t - i : Nat) : Int) < (n : Int) := by omega
            have HA := veil (show i ≤ t + 1 ∧ t + 1 ≤ s.fresh ∧ t + 1 - i ≤ n ∧ (∀ j, i ≤ j → j < t + 1 → s.how j = 2) from ⟨by omega, by omega, by omega, fun j h1 h2 => by
              rcases Nat.lt_or_ge j t with z | z
              · exact hall j h1 z
              · obtain rfl : j = t := by omega
                exact g2⟩)
            have ht4 : t < 1048577 := by omega
            generalize t - i = ti at *
            clear g1 g2 g3 hall ht1 ht2 ht3 hj e1 e2
            go_wp2_with fail
            go_roundw
            case rel => exact ⟨t + 1, HA.out.1, HA.out.2.1, HA.out.2.2.1, by go_num, HA.out.2.2.2, trivial⟩
            case measure => have := HA.out; simp [intOf]; omega
          · have HT := veil (show i ≤ t ∧ t ≤ s.fresh ∧ t - i ≤ n ∧ (∀ j, i ≤ j → j < t → s.how j = 2) ∧ ¬ (t < s.fresh ∧ s.how t = 2 ∧ t - i < n) from ⟨ht1, ht2, ht3, hall, hgo⟩)
            have ht4 : t < 1048577 := by omega
            clear ht1 ht2 ht3 hall hgo
            by_cases hn0 : n = 0
            · have et : t = i := by have := HT.out; omega
              have HBN2 := veil (show ∃ j, j < i + 1 ∧ s.how j = 2 from ⟨i, Nat.lt_succ_self i, HH2.out⟩)
              have HN0 := veil hn0
              subst et hn0
              have wt : IntKind.i64.wrap ((t : Int) - (t : Int)) = 0 := by rw [IntKind.wrap_i64]; omega
              have bT : (t : Int) < (s.fresh : Int) := by have := HLT.out; omega
              have bU : (t : Int) < (s.b.length : Int) := by have := HLT.out; have := HLN.out; omega
              obtain ⟨hg', ho', hva', ck⟩ := hrw.cells t _ (vh_get _ _ _ (show t < s.b.length by omega))
              rw [hva] at hva'
              injection hva' with hva'
              injection hva' with e1 e2
              rw [← e1, ← e2, HH2.out] at ck
              clear e1 e2
              go_wp2_with fail
              go_roundw
              case rel => exact ⟨t + 1, true, HLT.out, by go_num, rfl, ⟨fun _ => HBN2.out, fun _ => rfl⟩, fun z => absurd z (Nat.lt_irrefl 0), trivial⟩
              case measure => have := HLT.out; simp [intOf]; omega
            · have n0 : (0 : Int) < (n : Int) := by omega
              have hspan : span s (n : Int) fr = some (i, t) := by
                obtain ⟨a1, a2, a3, a4, a5⟩ := HT.out
                have hlt := HLT.out
                have e1 : first s.how 0 s.fresh = i := first_is (Nat.zero_le _) (by omega) (fun j _ h2 e => by have := HBN.out.1.2 ⟨j, h2, e⟩; rw [HBN.out.2 (by omega)] at this; cases this) (fun _ => HH2.out)
                have e2 : run s.how i (min n (s.fresh - i)) = t := run_is a1 (by omega) a4 (fun z e => a5 ⟨by omega, e, by omega⟩)
                unfold span
                rw [if_neg (by rw [HRS.out]; simp), if_pos (by rw [e1]; exact ⟨n0, hlt⟩), e1, Int.toNat_natCast, e2]
              have HSP := veil hspan
              have sp := span_some HFI.out hspan
              have HTO := veil (refTold_any (w := w0) (h := h) (bv := bv) (hv := hv) (s := s) ⟨OK.out.row, OK.out.brow, OK.out.hrow⟩ HLN.out.2 i t sp.le sp.top)
              have HTE := veil (toldR_tell (s := s) (p := i) (q := t) HT.out.2.1)
              have HTF := veil (tell_fine HFI.out sp)
              clear hspan sp hn0
              by_cases g1 : t < s.fresh
              · have bT : (t : Int) < (s.fresh : Int) := by omega
                have bU : (t : Int) < (s.b.length : Int) := by have := HLN.out; omega
                obtain ⟨hg', ho', hva', ck⟩ := hrw.cells t _ (vh_get _ _ _ (show t < s.b.length by omega))
                rw [hva] at hva'
                injection hva' with hva'
                injection hva' with e1 e2
                rw [← e1, ← e2] at ck
                clear e1 e2
                by_cases g2 : s.how t = 2
                · rw [g2] at ck
                  have bN : ¬ ((t - i : Nat) : Int) < (n : Int) := by have := HT.out; omega
                  have wt : IntKind.i64.wrap ((t : Int) - (i : Int)) = ((t - i : Nat) : Int) := by have := HT.out; rw [IntKind.wrap_i64]; omega
                  clear g1 g2
                  generalize ((t - i : Nat) : Int) = ti at *
                  go_wp2_with fail
                  refine HTO.out.mono ?_
                  rintro e1 w1 ⟨d, rfl, hD, hDN, hR1, hK1⟩
                  rw [HTE.out] at hR1
                  have R1 : Row w1 w.heap.size 28 fr0 := (hK1.block _ R6.out.lt (fun e => Nat.lt_irrefl _ (HOW.out.2 _ (HOW.out.1 _ e)))).trans R6.out
                  have HK := veil ((KeepP.of_below (st := OwnR h bv hv) HB0.out).trans hK1)
                  have HR1 := veil hR1
                  have HDD := veil hD
                  have HDN := veil (show ∀ k, d.ownBlock = some k → w.heap.size ≤ k from fun k e => Nat.le_trans HB0.out.size (hDN k e))
                  have RX : Row w1 w.heap.size 28 #[.int .u8 0, .int .u64 0, .int .u64 0, .int .u64 0, .int .u64 0, .bool false, .slice none 0 0, .slice none 0 0] := R1
                  obtain ⟨da, dc, hde, _, _⟩ := hD.shape
                  clear hD hDN hR1 hK1 HTO R1
                  subst hde
                  generalize hdl : t - i = dl at HDD HDN ⊢
                  obtain ⟨fb, hfb⟩ : ∃ fb, finB s t = fb := ⟨_, rfl⟩
                  rw [hfb]
                  have HFB := veil hfb
                  clear hfb
                  unfold frD
                  have rr0 : w1.cell? ⟨w.heap.size, 0, none⟩ = some (.int .u8 0) := RX.cell 0
                  have rr1 : w1.cell? ⟨w.heap.size, 1, none⟩ = some (.int .u64 0) := RX.cell 1
                  have rr2 : w1.cell? ⟨w.heap.size, 2, none⟩ = some (.int .u64 0) := RX.cell 2
                  have rr3 : w1.cell? ⟨w.heap.size, 3, none⟩ = some (.int .u64 0) := RX.cell 3
                  have rr4 : w1.cell? ⟨w.heap.size, 4, none⟩ = some (.int .u64 0) := RX.cell 4
                  have rr5 : w1.cell? ⟨w.heap.size, 5, none⟩ = some (.bool false) := RX.cell 5
                  have rr6 : w1.cell? ⟨w.heap.size, 6, none⟩ = some (.slice none 0 0) := RX.cell 6
                  have rr7 : w1.cell? ⟨w.heap.size, 7, none⟩ = some (.slice none 0 0) := RX.cell 7
                  have ff0 : w1.frozen? ⟨w.heap.size, 0, none⟩ = false := RX.frozen 0
                  have ff1 : w1.frozen? ⟨w.heap.size, 1, none⟩ = false := RX.frozen 1
                  have ff2 : w1.frozen? ⟨w.heap.size, 2, none⟩ = false := RX.frozen 2
                  have ff3 : w1.frozen? ⟨w.heap.size, 3, none⟩ = false := RX.frozen 3
                  have ff4 : w1.frozen? ⟨w.heap.size, 4, none⟩ = false := RX.frozen 4
                  have ff5 : w1.frozen? ⟨w.heap.size, 5, none⟩ = false := RX.frozen 5
                  have ff6 : w1.frozen? ⟨w.heap.size, 6, none⟩ = false := RX.frozen 6
                  have ff7 : w1.frozen? ⟨w.heap.size, 7, none⟩ = false := RX.frozen 7
                  go_wp2_with fail
                  have k8 := keep8P w1 w.heap.size (.int .u8 7) (.int .u64 (s.id : Int)) (.int .u64 (i : Int)) (.int .u64 0) (.int .u64 0) (.bool fb) (.slice da dl dc) (.slice none 0 0)
                  refine bodyPost_ret (result_two rfl _ _ w.heap.size 28 (frD s.id i fb (.slice da dl dc)) (row8 (d0 := .int .u8 7) (d1 := .int .u64 (s.id : Int)) (d2 := .int .u64 (i : Int)) (d3 := .int .u64 0) (d4 := .int .u64 0) (d5 := .bool fb) (d6 := .slice da dl dc) (d7 := .slice none 0 0) RX) 8 _ _ rfl rfl Tryz.underlying28 (by kernel_rfl) rfl) rfl ?_
                  obtain ⟨t1, t2, t3⟩ := take_end HR1.out HTF.out HDD.out HK.out k8 (Nat.le_refl _) ⟨_, RX⟩ HOW.out.1 HOW.out.2
                  unfold RTakeP
                  rw [HSP.out]
                  simp only
                  rw [hdl, HFB.out]
                  exact ⟨_, rfl, t1, HDN.out, t2, t3⟩
                · have n1 : ((s.how t : Int) == 2) = false := by rw [beq_eq_false_iff_ne]; omega
                  have n2 : ¬ (s.how t : Int) = 2 := by omega
                  clear g1 g2
                  generalize (s.how t : Int) = hh at *
                  go_wp2_with fail
                  refine HTO.out.mono ?_
                  rintro e1 w1 ⟨d, rfl, hD, hDN, hR1, hK1⟩
                  rw [HTE.out] at hR1
                  have R1 : Row w1 w.heap.size 28 fr0 := (hK1.block _ R6.out.lt (fun e => Nat.lt_irrefl _ (HOW.out.2 _ (HOW.out.1 _ e)))).trans R6.out
                  have HK := veil ((KeepP.of_below (st := OwnR h bv hv) HB0.out).trans hK1)
                  have HR1 := veil hR1
                  have HDD := veil hD
                  have HDN := veil (show ∀ k, d.ownBlock = some k → w.heap.size ≤ k from fun k e => Nat.le_trans HB0.out.size (hDN k e))
                  have RX : Row w1 w.heap.size 28 #[.int .u8 0, .int .u64 0, .int .u64 0, .int .u64 0, .int .u64 0, .bool false, .slice none 0 0, .slice none 0 0] := R1
                  obtain ⟨da, dc, hde, _, _⟩ := hD.shape
                  clear hD hDN hR1 hK1 HTO R1
                  subst hde
                  generalize hdl : t - i = dl at HDD HDN ⊢
                  obtain ⟨fb, hfb⟩ : ∃ fb, finB s t = fb := ⟨_, rfl⟩
                  rw [hfb]
                  have HFB := veil hfb
                  clear hfb
                  unfold frD
                  have rr0 : w1.cell? ⟨w.heap.size, 0, none⟩ = some (.int .u8 0) := RX.cell 0
                  have rr1 : w1.cell? ⟨w.heap.size, 1, none⟩ = some (.int .u64 0) := RX.cell 1
                  have rr2 : w1.cell? ⟨w.heap.size, 2, none⟩ = some (.int .u64 0) := RX.cell 2
                  have rr3 : w1.cell? ⟨w.heap.size, 3, none⟩ = some (.int .u64 0) := RX.cell 3
                  have rr4 : w1.cell? ⟨w.heap.size, 4, none⟩ = some (.int .u64 0) := RX.cell 4
                  have rr5 : w1.cell? ⟨w.heap.size, 5, none⟩ = some (.bool false) := RX.cell 5
                  have rr6 : w1.cell? ⟨w.heap.size, 6, none⟩ = some (.slice none 0 0) := RX.cell 6
                  have rr7 : w1.cell? ⟨w.heap.size, 7, none⟩ = some (.slice none 0 0) := RX.cell 7
                  have ff0 : w1.frozen? ⟨w.heap.size, 0, none⟩ = false := RX.frozen 0
                  have ff1 : w1.frozen? ⟨w.heap.size, 1, none⟩ = false := RX.frozen 1
                  have ff2 : w1.frozen? ⟨w.heap.size, 2, none⟩ = false := RX.frozen 2
                  have ff3 : w1.frozen? ⟨w.heap.size, 3, none⟩ = false := RX.frozen 3
                  have ff4 : w1.frozen? ⟨w.heap.size, 4, none⟩ = false := RX.frozen 4
                  have ff5 : w1.frozen? ⟨w.heap.size, 5, none⟩ = false := RX.frozen 5
                  have ff6 : w1.frozen? ⟨w.heap.size, 6, none⟩ = false := RX.frozen 6
                  have ff7 : w1.frozen? ⟨w.heap.size, 7, none⟩ = false := RX.frozen 7
                  go_wp2_with fail
                  have k8 := keep8P w1 w.heap.size (.int .u8 7) (.int .u64 (s.id : Int)) (.int .u64 (i : Int)) (.int .u64 0) (.int .u64 0) (.bool fb) (.slice da dl dc) (.slice none 0 0)
                  refine bodyPost_ret (result_two rfl _ _ w.heap.size 28 (frD s.id i fb (.slice da dl dc)) (row8 (d0 := .int .u8 7) (d1 := .int .u64 (s.id : Int)) (d2 := .int .u64 (i : Int)) (d3 := .int .u64 0) (d4 := .int .u64 0) (d5 := .bool fb) (d6 := .slice da dl dc) (d7 := .slice none 0 0) RX) 8 _ _ rfl rfl Tryz.underlying28 (by kernel_rfl) rfl) rfl ?_
                  obtain ⟨t1, t2, t3⟩ := take_end HR1.out HTF.out HDD.out HK.out k8 (Nat.le_refl _) ⟨_, RX⟩ HOW.out.1 HOW.out.2
                  unfold RTakeP
                  rw [HSP.out]
                  simp only
                  rw [hdl, HFB.out]
                  exact ⟨_, rfl, t1, HDN.out, t2, t3⟩
              · have bT : ¬ (t : Int) < (s.fresh : Int) := by omega
                clear g1
                go_wp2_with fail
                refine HTO.out.mono ?_
                rintro e1 w1 ⟨d, rfl, hD, hDN, hR1, hK1⟩
                rw [HTE.out] at hR1
                have R1 : Row w1 w.heap.size 28 fr0 := (hK1.block _ R6.out.lt (fun e => Nat.lt_irrefl _ (HOW.out.2 _ (HOW.out.1 _ e)))).trans R6.out
                have HK := veil ((KeepP.of_below (st := OwnR h bv hv) HB0.out).trans hK1)
                have HR1 := veil hR1
                have HDD := veil hD
                have HDN := veil (show ∀ k, d.ownBlock = some k → w.heap.size ≤ k from fun k e => Nat.le_trans HB0.out.size (hDN k e))
                have RX : Row w1 w.heap.size 28 #[.int .u8 0, .int .u64 0, .int .u64 0, .int .u64 0, .int .u64 0, .bool false, .slice none 0 0, .slice none 0 0] := R1
                obtain ⟨da, dc, hde, _, _⟩ := hD.shape
                clear hD hDN hR1 hK1 HTO R1
                subst hde
                generalize hdl : t - i = dl at HDD HDN ⊢
                obtain ⟨fb, hfb⟩ : ∃ fb, finB s t = fb := ⟨_, rfl⟩
                rw [hfb]
                have HFB := veil hfb
                clear hfb
                unfold frD
                have rr0 : w1.cell? ⟨w.heap.size, 0, none⟩ = some (.int .u8 0) := RX.cell 0
                have rr1 : w1.cell? ⟨w.heap.size, 1, none⟩ = some (.int .u64 0) := RX.cell 1
                have rr2 : w1.cell? ⟨w.heap.size, 2, none⟩ = some (.int .u64 0) := RX.cell 2
                have rr3 : w1.cell? ⟨w.heap.size, 3, none⟩ = some (.int .u64 0) := RX.cell 3
                have rr4 : w1.cell? ⟨w.heap.size, 4, none⟩ = some (.int .u64 0) := RX.cell 4
                have rr5 : w1.cell? ⟨w.heap.size, 5, none⟩ = some (.bool false) := RX.cell 5
                have rr6 : w1.cell? ⟨w.heap.size, 6, none⟩ = some (.slice none 0 0) := RX.cell 6
                have rr7 : w1.cell? ⟨w.heap.size, 7, none⟩ = some (.slice none 0 0) := RX.cell 7
                have ff0 : w1.frozen? ⟨w.heap.size, 0, none⟩ = false := RX.frozen 0
                have ff1 : w1.frozen? ⟨w.heap.size, 1, none⟩ = false := RX.frozen 1
                have ff2 : w1.frozen? ⟨w.heap.size, 2, none⟩ = false := RX.frozen 2
                have ff3 : w1.frozen? ⟨w.heap.size, 3, none⟩ = false := RX.frozen 3
                have ff4 : w1.frozen? ⟨w.heap.size, 4, none⟩ = false := RX.frozen 4
                have ff5 : w1.frozen? ⟨w.heap.size, 5, none⟩ = false := RX.frozen 5
                have ff6 : w1.frozen? ⟨w.heap.size, 6, none⟩ = false := RX.frozen 6
                have ff7 : w1.frozen? ⟨w.heap.size, 7, none⟩ = false := RX.frozen 7
                go_wp2_with fail
                have k8 := keep8P w1 w.heap.size (.int .u8 7) (.int .u64 (s.id : Int)) (.int .u64 (i : Int)) (.int .u64 0) (.int .u64 0) (.bool fb) (.slice da dl dc) (.slice none 0 0)
                refine bodyPost_ret (result_two rfl _ _ w.heap.size 28 (frD s.id i fb (.slice da dl dc)) (row8 (d0 := .int .u8 7) (d1 := .int .u64 (s.id : Int)) (d2 := .int .u64 (i : Int)) (d3 := .int .u64 0) (d4 := .int .u64 0) (d5 := .bool fb) (d6 := .slice da dl dc) (d7 := .slice none 0 0) RX) 8 _ _ rfl rfl Tryz.underlying28 (by kernel_rfl) rfl) rfl ?_
                obtain ⟨t1, t2, t3⟩ := take_end HR1.out HTF.out HDD.out HK.out k8 (Nat.le_refl _) ⟨_, RX⟩ HOW.out.1 HOW.out.2
                unfold RTakeP
                rw [HSP.out]
                simp only
                rw [hdl, HFB.out]
                exact ⟨_, rfl, t1, HDN.out, t2, t3⟩
      · have n1 : ((s.how i : Int) != 2) = true := by rw [bne_iff_ne]; omega
        have n2 : ¬ (s.how i : Int) = 2 := by omega
        have HBN := veil (show (b = true ↔ ∃ j, j < i + 1 ∧ s.how j = 2) ∧ (0 < n → b = false) from ⟨hb.trans ⟨fun ⟨j, e1, e2⟩ => ⟨j, by omega, e2⟩, fun ⟨j, e1, e2⟩ => ⟨j, by
          rcases Nat.lt_or_ge j i with z | z
          · exact z
          · obtain rfl : j = i := by omega
            exact absurd e2 h2, e2⟩⟩, hnb⟩)
        generalize (s.how i : Int) = hh at *
        clear hlt hj h2 hb hnb hi
        go_wp2_with fail
        go_roundw
        case rel => exact ⟨i + 1, b, HLT.out, by go_num, rfl, HBN.out.1, HBN.out.2, trivial⟩
        case measure => have := HLT.out; simp [intOf]; omega
    · have et : i = s.fresh := by omega
      subst et
      have HBF := veil (show (b = true ↔ first s.how 0 s.fresh < s.fresh) ∧ (0 < n → b = false) from ⟨hb.trans (first_lt _ _).symm, hnb⟩)
      have bI : ¬ (s.fresh : Int) < (s.fresh : Int) := Int.lt_irrefl _
      obtain ⟨ba, bc, hbe, _, _⟩ := OK.out.brow.shape
      have c2 := OK.out.row.cell 2
      unfold rfC at c2
      rw [hbe] at c2
      obtain ⟨d0, hd0⟩ : ∃ d0, s.b.length - s.fresh = d0 := ⟨_, rfl⟩
      have wl : IntKind.i64.wrap ((s.b.length : Int) - (s.fresh : Int)) = (d0 : Int) := by have := HLN.out; rw [IntKind.wrap_i64]; omega
      obtain ⟨m1, hm1⟩ : ∃ m1, min d0 n = m1 := ⟨_, rfl⟩
      have hk9 : min (d0 : Int) (n : Int) = (m1 : Int) := by omega
      have HM1 := veil (show min (s.b.length - s.fresh) n = m1 by rw [hd0]; exact hm1)
      have hm2 : m1 ≤ 1048576 := by have := HLN.out; omega
      have wm : IntKind.u64.wrap (m1 : Int) = (m1 : Int) := by rw [IntKind.wrap_u64]; omega
      clear hb hnb hi hlt hd0 hm1
      go_wp2_with fail
      go_quiet (fail)
      clear c2 c3 c4
      have OK1 := veil (OK.out.below (below_drewN (Below.refl _ w0) nq))
      have R61 := veil (R6.out.below (below_drewN (Below.refl _ w0) nq) R6.out.lt)
      have HB1 := veil (HB0.out.trans ((below_drewN (Below.refl _ w0) nq).mono HB0.out.size))
      generalize w0.drewN nq = w1 at *
      have c1 := OK1.out.row.cell 1
      have c2 := OK1.out.row.cell 2
      have c4 := OK1.out.row.cell 4
      unfold rfC at c1 c2 c4
      rw [hbe] at c2
      go_upto_if 86 with fail
      go_cut [11] from 70 (fun mv wx => ∃ m2 : Nat, min m1 fr = m2 ∧ mv = .int .i64 (m2 : Int) ∧ wx = w1)
      case first =>
        by_cases hfm : fr < m1
        · have xI : (fr : Int) < (m1 : Int) := by omega
          have wf : IntKind.i64.wrap (fr : Int) = (fr : Int) := by rw [IntKind.wrap_i64]; omega
          go_wp2_with fail
          go_meet
          case rel => exact ⟨fr, by omega, rfl, rfl⟩
        · have xI : ¬ (fr : Int) < (m1 : Int) := by omega
          go_wp2_with fail
          go_meet
          case rel => exact ⟨m1, by omega, rfl, rfl⟩
      case rest =>
        obtain ⟨m2, hm2e, rfl, hwc⟩ := hcut
        symm at hwc
        subst hwc
        have hmn := more_is HM1.out hm2e
        have hm2 : m2 ≤ 1048576 := by omega
        have wm : IntKind.u64.wrap (m2 : Int) = (m2 : Int) := by rw [IntKind.wrap_u64]; omega
        have wfr : IntKind.u64.wrap (s.fresh : Int) = (s.fresh : Int) := by rw [IntKind.wrap_u64]; omega
        have hcr : s.credit ≤ 4611686018427387903 := HFI.out.credit
        clear hm2e HM1
        go_wp2_with fail
        go_quiet (fail)
        clear c1 c2 c4
        have OK2 := veil (OK1.out.below (below_drewN (Below.refl _ w1) nq))
        have R62 := veil (R61.out.below (below_drewN (Below.refl _ w1) nq) R61.out.lt)
        have HB2 := veil (HB1.out.trans ((below_drewN (Below.refl _ w1) nq).mono HB1.out.size))
        generalize w1.drewN nq = w2 at *
        have c1 := OK2.out.row.cell 1
        have c2 := OK2.out.row.cell 2
        have c4 := OK2.out.row.cell 4
        unfold rfC at c1 c2 c4
        rw [hbe] at c2
        go_upto_if 98 with fail
        go_cut [11] from 70 (fun mv wx => ∃ m : Nat, min m2 (s.credit - s.fresh) = m ∧ mv = .int .i64 (m : Int) ∧ Below w2.heap.size w2 wx)
        case first =>
          have HBS := veil (Below.refl w2.heap.size w2)
          by_cases hcf : s.credit ≤ s.fresh
          · have xI : (s.credit : Int) ≤ (s.fresh : Int) := by omega
            go_wp2_with fail
            go_meet
            case rel => exact ⟨0, by omega, rfl, HBS.out⟩
          · have xI : ¬ (s.credit : Int) ≤ (s.fresh : Int) := by omega
            obtain ⟨dc, hdc⟩ : ∃ dc, s.credit - s.fresh = dc := ⟨_, rfl⟩
            have wd : IntKind.u64.wrap ((s.credit : Int) - (s.fresh : Int)) = (dc : Int) := by rw [IntKind.wrap_u64]; omega
            have HDC := veil (show s.credit - s.fresh = dc ∧ dc ≤ 4611686018427387903 from ⟨hdc, by omega⟩)
            clear hdc
            go_wp2_with fail
            go_quiet (fail)
            have HBT := veil (HBS.out.trans (below_drewN (Below.refl _ w2) nq))
            clear c1 c2 c4
            have OK3 := veil (OK2.out.below (below_drewN (Below.refl _ w2) nq))
            have R63 := veil (R62.out.below (below_drewN (Below.refl _ w2) nq) R62.out.lt)
            have HB3 := veil (HB2.out.trans ((below_drewN (Below.refl _ w2) nq).mono HB2.out.size))
            generalize w2.drewN nq = w3 at *
            have c1 := OK3.out.row.cell 1
            have c2 := OK3.out.row.cell 2
            have c4 := OK3.out.row.cell 4
            unfold rfC at c1 c2 c4
            rw [hbe] at c2
            by_cases hdm : dc < m2
            · have yI : (dc : Int) < (m2 : Int) := by omega
              have wdi : IntKind.i64.wrap (dc : Int) = (dc : Int) := by have := HDC.out; rw [IntKind.wrap_i64]; omega
              go_wp2_with fail
              go_quiet (fail)
              go_wp2_with fail
              go_meet
              case rel => exact ⟨dc, by have := HDC.out; omega, rfl, HBT.out.trans ((below_drewN (Below.refl _ w3) nq).mono HBT.out.size)⟩
            · have yI : ¬ (dc : Int) < (m2 : Int) := by omega
              go_wp2_with fail
              go_meet
              case rel => exact ⟨m2, by have := HDC.out; omega, rfl, HBT.out⟩
        case rest =>
          obtain ⟨m, hm, rfl, hbw⟩ := hcut
          rw [hm] at hmn
          have HMN := veil hmn
          have hm8 : m ≤ 1048576 := by omega
          have OK4 := veil (OK2.out.below hbw)
          have R64 := veil (R62.out.below hbw R62.out.lt)
          have HB4 := veil (HB2.out.trans (hbw.mono HB2.out.size))
          clear hm hmn hbw wm wfr hcr c1 c2 c4
          have hfn : ¬ (0 < (n : Int) ∧ first s.how 0 s.fresh < s.fresh) := fun ⟨e1, e2⟩ => by
            have h1 := HBF.out.1.2 e2
            rw [HBF.out.2 (by omega)] at h1
            cases h1
          have c2 := OK4.out.row.cell 2
          have c4 := OK4.out.row.cell 4
          have f4 := OK4.out.row.frozen 4
          unfold rfC at c2 c4
          rw [hbe] at c2
          by_cases hm0 : 0 < m
          · have mI : (0 : Int) < (m : Int) := by omega
            have hspan := span_more HRS.out (show ¬ (n : Int) < 0 by omega) hfn HMN.out hm0
            obtain ⟨q, hq⟩ : ∃ q, s.fresh + m = q := ⟨_, rfl⟩
            rw [hq] at hspan
            have sp := span_some HFI.out hspan
            have wq : IntKind.i64.wrap ((s.fresh : Int) + (m : Int)) = (q : Int) := by rw [IntKind.wrap_i64]; omega
            have RR3 : RfR (wc.setCell ⟨h, 4, none⟩ (.int .i64 (q : Int))) h bv hv { s with fresh := q } :=
              ⟨OK4.out.row.set 4 _, RowO.setG OK4.out.brow OK4.out.nb 4 _, RowO.setG OK4.out.hrow OK4.out.nh 4 _⟩
            have HSP := veil hspan
            have HTO := veil (refToldF_any RR3 HLN.out.2 sp.le sp.top)
            have HTF := veil (tell_fine HFI.out sp)
            have NFB : w.heap.size ≠ h := fun e => by have h1 := HOW.out.2 h (HOW.out.1 h (.inl rfl)); omega
            have RB := veil (show Row (wc.setCell ⟨h, 4, none⟩ (.int .i64 (q : Int))) w.heap.size 28 fr0 from (Below.heap_setCell _ _ _ _ NFB).trans R64.out)
            have KB := veil ((KeepP.of_below (st := OwnR h bv hv) HB4.out).trans (KeepP.setCell (st := OwnR h bv hv) (.inl rfl) wc 4 (.int .i64 (q : Int))))
            clear hspan sp hm0 hq RR3 NFB HMN hfn
            go_wp2_with fail
            refine HTO.out.mono ?_
            rintro e1 w1 ⟨d, rfl, hD, hDN, hR1, hK1⟩
            have R1 : Row w1 w.heap.size 28 fr0 := (hK1.block _ RB.out.lt (fun e => Nat.lt_irrefl _ (HOW.out.2 _ (HOW.out.1 _ e)))).trans RB.out
            have HK := veil (KB.out.trans hK1)
            have HR1 := veil hR1
            have HDD := veil hD
            have HDN := veil (show ∀ k, d.ownBlock = some k → w.heap.size ≤ k from fun k e => Nat.le_trans KB.out.size (hDN k e))
            have RX : Row w1 w.heap.size 28 #[.int .u8 0, .int .u64 0, .int .u64 0, .int .u64 0, .int .u64 0, .bool false, .slice none 0 0, .slice none 0 0] := R1
            obtain ⟨da, dc, hde, _, _⟩ := hD.shape
            clear hD hDN hR1 hK1 HTO R1
            subst hde
            generalize hdl : q - s.fresh = dl at HDD HDN ⊢
            obtain ⟨fb, hfb⟩ : ∃ fb, finB s q = fb := ⟨_, rfl⟩
            rw [hfb]
            have HFB := veil hfb
            clear hfb
            unfold frD
            have rr0 : w1.cell? ⟨w.heap.size, 0, none⟩ = some (.int .u8 0) := RX.cell 0
            have rr1 : w1.cell? ⟨w.heap.size, 1, none⟩ = some (.int .u64 0) := RX.cell 1
            have rr2 : w1.cell? ⟨w.heap.size, 2, none⟩ = some (.int .u64 0) := RX.cell 2
            have rr3 : w1.cell? ⟨w.heap.size, 3, none⟩ = some (.int .u64 0) := RX.cell 3
            have rr4 : w1.cell? ⟨w.heap.size, 4, none⟩ = some (.int .u64 0) := RX.cell 4
            have rr5 : w1.cell? ⟨w.heap.size, 5, none⟩ = some (.bool false) := RX.cell 5
            have rr6 : w1.cell? ⟨w.heap.size, 6, none⟩ = some (.slice none 0 0) := RX.cell 6
            have rr7 : w1.cell? ⟨w.heap.size, 7, none⟩ = some (.slice none 0 0) := RX.cell 7
            have ff0 : w1.frozen? ⟨w.heap.size, 0, none⟩ = false := RX.frozen 0
            have ff1 : w1.frozen? ⟨w.heap.size, 1, none⟩ = false := RX.frozen 1
            have ff2 : w1.frozen? ⟨w.heap.size, 2, none⟩ = false := RX.frozen 2
            have ff3 : w1.frozen? ⟨w.heap.size, 3, none⟩ = false := RX.frozen 3
            have ff4 : w1.frozen? ⟨w.heap.size, 4, none⟩ = false := RX.frozen 4
            have ff5 : w1.frozen? ⟨w.heap.size, 5, none⟩ = false := RX.frozen 5
            have ff6 : w1.frozen? ⟨w.heap.size, 6, none⟩ = false := RX.frozen 6
            have ff7 : w1.frozen? ⟨w.heap.size, 7, none⟩ = false := RX.frozen 7
            go_wp2_with fail
            have k8 := keep8P w1 w.heap.size (.int .u8 7) (.int .u64 (s.id : Int)) (.int .u64 (s.fresh : Int)) (.int .u64 0) (.int .u64 0) (.bool fb) (.slice da dl dc) (.slice none 0 0)
            refine bodyPost_ret (result_two rfl _ _ w.heap.size 28 (frD s.id s.fresh fb (.slice da dl dc)) (row8 (d0 := .int .u8 7) (d1 := .int .u64 (s.id : Int)) (d2 := .int .u64 (s.fresh : Int)) (d3 := .int .u64 0) (d4 := .int .u64 0) (d5 := .bool fb) (d6 := .slice da dl dc) (d7 := .slice none 0 0) RX) 8 _ _ rfl rfl Tryz.underlying28 (by kernel_rfl) rfl) rfl ?_
            obtain ⟨t1, t2, t3⟩ := take_end HR1.out HTF.out HDD.out HK.out k8 (Nat.le_refl _) ⟨_, RX⟩ HOW.out.1 HOW.out.2
            unfold RTakeP
            rw [HSP.out]
            simp only
            rw [hdl, HFB.out]
            exact ⟨_, rfl, t1, HDN.out, t2, t3⟩
          · have mI : ¬ (0 : Int) < (m : Int) := by omega
            have hse := span_end HRS.out (show ¬ (n : Int) < 0 by omega) hfn (by rw [HMN.out]; omega)
            have c5 := OK4.out.row.cell 5
            have c6 := OK4.out.row.cell 6
            unfold rfC at c5 c6
            have hfin : s.fin ≤ 3 := HFI.out.fin
            clear f4 hfn hm0 HMN
            by_cases x1 : s.last = true
            · rw [x1] at c5
              by_cases x2 : s.fresh = s.b.length
              · have eI : (s.fresh : Int) = (s.b.length : Int) := by omega
                have eB : ((s.fresh : Int) == (s.b.length : Int)) = true := by rw [beq_iff_eq]; omega
                cases hbb : b
                · by_cases x3 : s.fin = 0 ∨ s.fin = 2
                  · rw [if_pos ⟨x1, x2, (fun z => by have h1 := HBF.out.1.2 z; rw [hbb] at h1; exact absurd h1 (by decide)), x3⟩] at hse
                    have HSE := veil hse
                    have X2 := veil x2
                    clear hse x1 x2 hfin
                    subst hbb
                    rcases x3 with x3 | x3
                    · rw [x3] at c6
                      clear x3
                      clear hk9 wl
                      go_wp2_with fail
                      go_quiet (fail)
                      have OK5 := veil (OK4.out.below (below_drewN (Below.refl _ wc) nq))
                      have R65 := veil (R64.out.below (below_drewN (Below.refl _ wc) nq) R64.out.lt)
                      have HB5 := veil (HB4.out.trans ((below_drewN (Below.refl _ wc) nq).mono HB4.out.size))
                      generalize wc.drewN nq = w5 at *
                      have C2 := veil (show w5.drew.cell? ⟨h, 2, none⟩ = some (.slice ba s.b.length bc) from by
                        have c := (OK5.out.below ((Below.refl _ w5).drew)).row.cell 2
                        unfold rfC at c
                        rw [hbe] at c
                        exact c)
                      subst hbe
                      have sp := span_some HFI.out HSE.out
                      have TO := veil (refTold_any (w := w5.drew) (h := h) (bv := .slice ba s.b.length bc) (hv := hv) (s := s) (by have o := OK5.out.below ((Below.refl _ w5).drew); exact ⟨o.row, o.brow, o.hrow⟩) HLN.out.2 s.b.length s.b.length (Nat.le_refl _) (Nat.le_refl _))
                      have TE := veil (toldR_tell (s := s) (p := s.b.length) (q := s.b.length) (by have := X2.out; omega))
                      have HTF := veil (tell_fine HFI.out sp)
                      have HB6 := veil (show Below w.heap.size w w5.drew from HB5.out.drew)
                      have RB := veil (show ∀ W4 d, RTo w5.drew W4 h (.slice ba s.b.length bc) hv s d → Row W4 w.heap.size 28 fr0 from fun W4 d e => (e.keep.block _ R65.out.lt (fun z => Nat.lt_irrefl _ (HOW.out.2 _ (HOW.out.1 _ z)))).trans (R65.out.below ((Below.refl _ w5).drew) R65.out.lt))
                      clear sp
                      go_wp2_with fail
                      refine (wpIn_wide (n := 4)).1 ?_
                      refine wpIn_region_any (by kernel_rfl) ?_
                      refine anyIn_spine (valKt h ba bc s) (RRk w5.drew h (.slice ba s.b.length bc) hv s w.heap.size) undef [11, 12] [178, 179, 180, 181, 182, 183, 184, 185, 186, 187, 188, 189, 100000, 7] depKt dclKt (by kernel_rfl) (by decide) rfl (by decide) (by decide) ?ord (by decide) ?h0 ?fix ?cal ?don
                      case ord =>
                        intro k i j h1 h2
                        match k, h1, h2 with
                        | 0, h1, h2 =>
                          obtain rfl := Option.some.inj h1
                          obtain rfl := Option.some.inj h2
                          decide
                        | 1, _, h2 => simp at h2
                        | _ + 2, h1, _ => simp at h1
                      case fix =>
                        intro x W4 m2 ii d u hR hdi hni hdep hlo hhi
                        match ii, hdi, hni, hdep, hhi with
                        | 0, hdi, _, _, _ =>
                          obtain rfl := Option.some.inj hdi
                          exact OI_value rfl rfl (about_none (by intro c h; cases h)) (by intro c h; cases h) (.pointer (some ⟨h, 0, none⟩)) W4 (by kernel_rfl) ⟨rfl, rfl⟩
                        | 1, hdi, _, _, _ =>
                          obtain rfl := Option.some.inj hdi
                          exact OI_value rfl rfl (about_none (by intro c h; cases h)) (by intro c h; cases h) (.pointer (some ⟨h, 0, none⟩)) W4 (by kernel_rfl) ⟨rfl, rfl⟩
                        | 2, hdi, _, hdep, _ =>
                          obtain rfl := Option.some.inj hdi
                          rw [updV_self (show x 1 = _ from hdep 1 (by simp [depKt]) (by decide))]
                          exact OI_value rfl rfl (about_none (by intro c h; cases h)) (by intro c h; cases h) (.pointer (some ⟨h, 0, none⟩)) W4 (by kernel_rfl) ⟨rfl, rfl⟩
                        | 3, hdi, _, hdep, _ =>
                          obtain rfl := Option.some.inj hdi
                          rw [updV_self (show x 2 = _ from hdep 2 (by simp [depKt]) (by decide))]
                          exact OI_value rfl rfl (about_none (by intro c h; cases h)) (by intro c h; cases h) (.pointer (some ⟨h, 2, none⟩)) W4 (by kernel_rfl) ⟨rfl, rfl⟩
                        | 4, hdi, _, hdep, hhi =>
                          obtain rfl := Option.some.inj hdi
                          rw [updV_self (show x 3 = _ from hdep 3 (by simp [depKt]) (by decide))]
                          exact OI_value rfl rfl (about_none (by intro c h; cases h)) (by intro c h; cases h) (.slice ba s.b.length bc) W4 (lgRun_cell 24 _ ⟨h, 2, none⟩ _ _ rfl (by kernel_rfl) Tryz.underlying24 rfl W4 (by rw [hR.zero (hhi 0 11 rfl (by decide))]; exact C2.out)) ⟨rfl, rfl⟩
                        | 5, hdi, _, hdep, _ =>
                          obtain rfl := Option.some.inj hdi
                          rw [updV_self (show x 4 = _ from hdep 4 (by simp [depKt]) (by decide))]
                          exact OI_value rfl rfl (about_builtin _ _ _ rfl) (by intro c h; cases h) (.int .i64 (s.b.length : Int)) W4 (by kernel_rfl) ⟨rfl, rfl⟩
                        | 6, hdi, _, _, _ =>
                          obtain rfl := Option.some.inj hdi
                          exact OI_value rfl rfl (about_none (by intro c h; cases h)) (by intro c h; cases h) (.pointer (some ⟨h, 0, none⟩)) W4 (by kernel_rfl) ⟨rfl, rfl⟩
                        | 7, hdi, _, hdep, _ =>
                          obtain rfl := Option.some.inj hdi
                          rw [updV_self (show x 6 = _ from hdep 6 (by simp [depKt]) (by decide))]
                          exact OI_value rfl rfl (about_none (by intro c h; cases h)) (by intro c h; cases h) (.pointer (some ⟨h, 0, none⟩)) W4 (by kernel_rfl) ⟨rfl, rfl⟩
                        | 8, hdi, _, hdep, _ =>
                          obtain rfl := Option.some.inj hdi
                          rw [updV_self (show x 7 = _ from hdep 7 (by simp [depKt]) (by decide))]
                          exact OI_value rfl rfl (about_none (by intro c h; cases h)) (by intro c h; cases h) (.pointer (some ⟨h, 2, none⟩)) W4 (by kernel_rfl) ⟨rfl, rfl⟩
                        | 9, hdi, _, hdep, hhi =>
                          obtain rfl := Option.some.inj hdi
                          rw [updV_self (show x 8 = _ from hdep 8 (by simp [depKt]) (by decide))]
                          exact OI_value rfl rfl (about_none (by intro c h; cases h)) (by intro c h; cases h) (.slice ba s.b.length bc) W4 (lgRun_cell 24 _ ⟨h, 2, none⟩ _ _ rfl (by kernel_rfl) Tryz.underlying24 rfl W4 (by rw [hR.zero (hhi 0 11 rfl (by decide))]; exact C2.out)) ⟨rfl, rfl⟩
                        | 10, hdi, _, hdep, _ =>
                          obtain rfl := Option.some.inj hdi
                          rw [updV_self (show x 9 = _ from hdep 9 (by simp [depKt]) (by decide))]
                          exact OI_value rfl rfl (about_builtin _ _ _ rfl) (by intro c h; cases h) (.int .i64 (s.b.length : Int)) W4 (by kernel_rfl) ⟨rfl, rfl⟩
                        | 11, _, hni, _, _ => (exfalso; exact hni (by decide))
                        | 12, _, hni, _, _ => (exfalso; exact hni (by decide))
                        | 13, hdi, _, _, _ =>
                          obtain rfl := Option.some.inj hdi
                          exact OI_value rfl rfl (about_none (by intro c h; cases h)) (by intro c h; cases h) (.bool true) W4 (by kernel_rfl) ⟨rfl, rfl⟩
                        | _ + 14, hdi, _, _, _ => simp at hdi
                      case cal =>
                        intro x W4 k2 ii d u hR hk hdi hdep hu0 hup
                        match k2, hk, hR, hu0, hup with
                        | 0, hk, hR, hu0, hup =>
                          obtain rfl := Option.some.inj hk
                          obtain rfl := Option.some.inj hdi
                          obtain rfl := hR
                          rw [updV_self (show x 0 = _ from hdep 0 (by simp [depKt]) (by decide)), updV_self (show (updV x 0 _) 5 = _ from hdep 5 (by simp [depKt]) (by decide)), updV_self (show (updV (updV x 0 _) 5 _) 10 = _ from hdep 10 (by simp [depKt]) (by decide))]
                          refine OI_call rfl rfl (by intro c h; cases h) 40 #[.pointer (some ⟨h, 0, none⟩), .int .i64 (s.b.length : Int), .int .i64 (s.b.length : Int)] (fun _ _ => trivial) (by kernel_rfl) (by decide) ?_
                          refine (callsIn_wide.2 TO.out).mono ?_
                          rintro e w' ⟨d, rfl, k1, k2, k3, k4⟩
                          rw [TE.out] at k3
                          have hz : RTo w5.drew w' h (.slice ba s.b.length bc) hv s d := ⟨k1, k2, k3, k4⟩
                          exact ⟨_, rfl, .agg (frD s.id s.b.length (finB s s.b.length) d), rfl, RRk.one hz⟩
                        | 1, hk, hR, hu0, hup =>
                          obtain rfl := Option.some.inj hk
                          obtain rfl := Option.some.inj hdi
                          have h11 : x 11 = u := hup 0 11 rfl rfl
                          obtain ⟨d, rfl, hRT⟩ := hR
                          rw [updV_self (show x 11 = _ from h11)]
                          have hrow : Row W4 w.heap.size 28 fr0 := RB.out W4 d hRT
                          refine OI_skip rfl rfl (about_none (by intro c h; cases h)) (by intro c h; cases h) _ (run_store_row 28 _ _ rfl w.heap.size (frD s.id s.b.length (finB s s.b.length) d) (by kernel_rfl) (by kernel_rfl) 28 _ hrow 8 (by kernel_rfl) rfl rfl (by obtain ⟨va, vc, hve, _, _⟩ := hRT.row.shape; rw [hve]; simp [frD, Value.oneCell'])) ⟨undef, (lgPut_none _ _).trans (put_far _ _ _ (by rw [puts_size]; exact Nat.le_of_ble_eq_true rfl)).symm, d, W4, hRT, rfl⟩
                        | _ + 2, hk, _, _, _ => simp at hk
                      case h0 => exact rfl
                      case don =>
                        rintro x9 W9 u9 hR9 hv1 hv2
                        have h13 : x9 13 = .bool true := by first | exact hv1 13 (by decide) (by decide) | exact hv2 13 (by decide) (by decide) | exact hv1 13 (by decide) | exact hv2 13 (by decide) | exact hv1 13 (by simp) (by simp)
                        obtain ⟨d, W1, hD9, rfl⟩ : ∃ (d : Value) (W1 : World), RTo w5.drew W1 h (.slice ba s.b.length bc) hv s d ∧ W9 = W1.setRow w.heap.size (frD s.id s.b.length (finB s s.b.length) d) := hR9
                        simp only [putsV, Act.put, List.setIfInBounds_toArray, List.set_cons_succ, List.set_cons_zero, Nat.reduceAdd, h13]
                        generalize x9 0 = z0, x9 1 = z1, x9 2 = z2, x9 3 = z3, x9 4 = z4, x9 5 = z5, x9 6 = z6, x9 7 = z7, x9 8 = z8, x9 9 = z9, x9 10 = z10, x9 11 = z11, x9 12 = z12
                        have RW := RB.out W1 d hD9
                        have k2 := KeepP.setRow (st := fun k => k = w.heap.size) (g := w.heap.size) rfl W1 (frD s.id s.b.length (finB s s.b.length) d)
                        have HD9 := veil hD9
                        have RQ := veil (RW.put (frD s.id s.b.length (finB s s.b.length) d))
                        have K2 := veil k2
                        have RWV := veil RW
                        clear hD9 k2 RW
                        generalize W1.setRow w.heap.size (frD s.id s.b.length (finB s s.b.length) d) = W2 at *
                        go_wp2_with fail
                        refine bodyPost_ret (result_two rfl _ _ w.heap.size 28 (frD s.id s.b.length (finB s s.b.length) d) RQ.out 8 _ _ rfl rfl Tryz.underlying28 (by kernel_rfl) rfl) rfl ?_
                        obtain ⟨t1, t2, t3⟩ := take_end HD9.out.rfr HTF.out HD9.out.row ((KeepP.of_below (st := OwnR h (.slice ba s.b.length bc) hv) HB6.out).trans HD9.out.keep) K2.out (Nat.le_refl _) ⟨_, RWV.out⟩ HOW.out.1 HOW.out.2
                        unfold RTakeP
                        rw [HSE.out]
                        exact ⟨_, rfl, t1, fun k e => Nat.le_trans HB6.out.size (HD9.out.new k e), t2, t3⟩
                    · rw [x3] at c6
                      clear x3
                      clear hk9 wl
                      go_wp2_with fail
                      go_quiet (fail)
                      have OK5 := veil (OK4.out.below (below_drewN (Below.refl _ wc) nq))
                      have R65 := veil (R64.out.below (below_drewN (Below.refl _ wc) nq) R64.out.lt)
                      have HB5 := veil (HB4.out.trans ((below_drewN (Below.refl _ wc) nq).mono HB4.out.size))
                      generalize wc.drewN nq = w5 at *
                      have C2 := veil (show w5.drew.cell? ⟨h, 2, none⟩ = some (.slice ba s.b.length bc) from by
                        have c := (OK5.out.below ((Below.refl _ w5).drew)).row.cell 2
                        unfold rfC at c
                        rw [hbe] at c
                        exact c)
                      subst hbe
                      have sp := span_some HFI.out HSE.out
                      have TO := veil (refTold_any (w := w5.drew) (h := h) (bv := .slice ba s.b.length bc) (hv := hv) (s := s) (by have o := OK5.out.below ((Below.refl _ w5).drew); exact ⟨o.row, o.brow, o.hrow⟩) HLN.out.2 s.b.length s.b.length (Nat.le_refl _) (Nat.le_refl _))
                      have TE := veil (toldR_tell (s := s) (p := s.b.length) (q := s.b.length) (by have := X2.out; omega))
                      have HTF := veil (tell_fine HFI.out sp)
                      have HB6 := veil (show Below w.heap.size w w5.drew from HB5.out.drew)
                      have RB := veil (show ∀ W4 d, RTo w5.drew W4 h (.slice ba s.b.length bc) hv s d → Row W4 w.heap.size 28 fr0 from fun W4 d e => (e.keep.block _ R65.out.lt (fun z => Nat.lt_irrefl _ (HOW.out.2 _ (HOW.out.1 _ z)))).trans (R65.out.below ((Below.refl _ w5).drew) R65.out.lt))
                      clear sp
                      go_wp2_with fail
                      refine (wpIn_wide (n := 4)).1 ?_
                      refine wpIn_region_any (by kernel_rfl) ?_
                      refine anyIn_spine (valKt h ba bc s) (RRk w5.drew h (.slice ba s.b.length bc) hv s w.heap.size) undef [11, 12] [178, 179, 180, 181, 182, 183, 184, 185, 186, 187, 188, 189, 100000, 7] depKt dclKt (by kernel_rfl) (by decide) rfl (by decide) (by decide) ?ord (by decide) ?h0 ?fix ?cal ?don
                      case ord =>
                        intro k i j h1 h2
                        match k, h1, h2 with
                        | 0, h1, h2 =>
                          obtain rfl := Option.some.inj h1
                          obtain rfl := Option.some.inj h2
                          decide
                        | 1, _, h2 => simp at h2
                        | _ + 2, h1, _ => simp at h1
                      case fix =>
                        intro x W4 m2 ii d u hR hdi hni hdep hlo hhi
                        match ii, hdi, hni, hdep, hhi with
                        | 0, hdi, _, _, _ =>
                          obtain rfl := Option.some.inj hdi
                          exact OI_value rfl rfl (about_none (by intro c h; cases h)) (by intro c h; cases h) (.pointer (some ⟨h, 0, none⟩)) W4 (by kernel_rfl) ⟨rfl, rfl⟩
                        | 1, hdi, _, _, _ =>
                          obtain rfl := Option.some.inj hdi
                          exact OI_value rfl rfl (about_none (by intro c h; cases h)) (by intro c h; cases h) (.pointer (some ⟨h, 0, none⟩)) W4 (by kernel_rfl) ⟨rfl, rfl⟩
                        | 2, hdi, _, hdep, _ =>
                          obtain rfl := Option.some.inj hdi
                          rw [updV_self (show x 1 = _ from hdep 1 (by simp [depKt]) (by decide))]
                          exact OI_value rfl rfl (about_none (by intro c h; cases h)) (by intro c h; cases h) (.pointer (some ⟨h, 0, none⟩)) W4 (by kernel_rfl) ⟨rfl, rfl⟩
                        | 3, hdi, _, hdep, _ =>
                          obtain rfl := Option.some.inj hdi
                          rw [updV_self (show x 2 = _ from hdep 2 (by simp [depKt]) (by decide))]
                          exact OI_value rfl rfl (about_none (by intro c h; cases h)) (by intro c h; cases h) (.pointer (some ⟨h, 2, none⟩)) W4 (by kernel_rfl) ⟨rfl, rfl⟩
                        | 4, hdi, _, hdep, hhi =>
                          obtain rfl := Option.some.inj hdi
                          rw [updV_self (show x 3 = _ from hdep 3 (by simp [depKt]) (by decide))]
                          exact OI_value rfl rfl (about_none (by intro c h; cases h)) (by intro c h; cases h) (.slice ba s.b.length bc) W4 (lgRun_cell 24 _ ⟨h, 2, none⟩ _ _ rfl (by kernel_rfl) Tryz.underlying24 rfl W4 (by rw [hR.zero (hhi 0 11 rfl (by decide))]; exact C2.out)) ⟨rfl, rfl⟩
                        | 5, hdi, _, hdep, _ =>
                          obtain rfl := Option.some.inj hdi
                          rw [updV_self (show x 4 = _ from hdep 4 (by simp [depKt]) (by decide))]
                          exact OI_value rfl rfl (about_builtin _ _ _ rfl) (by intro c h; cases h) (.int .i64 (s.b.length : Int)) W4 (by kernel_rfl) ⟨rfl, rfl⟩
                        | 6, hdi, _, _, _ =>
                          obtain rfl := Option.some.inj hdi
                          exact OI_value rfl rfl (about_none (by intro c h; cases h)) (by intro c h; cases h) (.pointer (some ⟨h, 0, none⟩)) W4 (by kernel_rfl) ⟨rfl, rfl⟩
                        | 7, hdi, _, hdep, _ =>
                          obtain rfl := Option.some.inj hdi
                          rw [updV_self (show x 6 = _ from hdep 6 (by simp [depKt]) (by decide))]
                          exact OI_value rfl rfl (about_none (by intro c h; cases h)) (by intro c h; cases h) (.pointer (some ⟨h, 0, none⟩)) W4 (by kernel_rfl) ⟨rfl, rfl⟩
                        | 8, hdi, _, hdep, _ =>
                          obtain rfl := Option.some.inj hdi
                          rw [updV_self (show x 7 = _ from hdep 7 (by simp [depKt]) (by decide))]
                          exact OI_value rfl rfl (about_none (by intro c h; cases h)) (by intro c h; cases h) (.pointer (some ⟨h, 2, none⟩)) W4 (by kernel_rfl) ⟨rfl, rfl⟩
                        | 9, hdi, _, hdep, hhi =>
                          obtain rfl := Option.some.inj hdi
                          rw [updV_self (show x 8 = _ from hdep 8 (by simp [depKt]) (by decide))]
                          exact OI_value rfl rfl (about_none (by intro c h; cases h)) (by intro c h; cases h) (.slice ba s.b.length bc) W4 (lgRun_cell 24 _ ⟨h, 2, none⟩ _ _ rfl (by kernel_rfl) Tryz.underlying24 rfl W4 (by rw [hR.zero (hhi 0 11 rfl (by decide))]; exact C2.out)) ⟨rfl, rfl⟩
                        | 10, hdi, _, hdep, _ =>
                          obtain rfl := Option.some.inj hdi
                          rw [updV_self (show x 9 = _ from hdep 9 (by simp [depKt]) (by decide))]
                          exact OI_value rfl rfl (about_builtin _ _ _ rfl) (by intro c h; cases h) (.int .i64 (s.b.length : Int)) W4 (by kernel_rfl) ⟨rfl, rfl⟩
                        | 11, _, hni, _, _ => (exfalso; exact hni (by decide))
                        | 12, _, hni, _, _ => (exfalso; exact hni (by decide))
                        | 13, hdi, _, _, _ =>
                          obtain rfl := Option.some.inj hdi
                          exact OI_value rfl rfl (about_none (by intro c h; cases h)) (by intro c h; cases h) (.bool true) W4 (by kernel_rfl) ⟨rfl, rfl⟩
                        | _ + 14, hdi, _, _, _ => simp at hdi
                      case cal =>
                        intro x W4 k2 ii d u hR hk hdi hdep hu0 hup
                        match k2, hk, hR, hu0, hup with
                        | 0, hk, hR, hu0, hup =>
                          obtain rfl := Option.some.inj hk
                          obtain rfl := Option.some.inj hdi
                          obtain rfl := hR
                          rw [updV_self (show x 0 = _ from hdep 0 (by simp [depKt]) (by decide)), updV_self (show (updV x 0 _) 5 = _ from hdep 5 (by simp [depKt]) (by decide)), updV_self (show (updV (updV x 0 _) 5 _) 10 = _ from hdep 10 (by simp [depKt]) (by decide))]
                          refine OI_call rfl rfl (by intro c h; cases h) 40 #[.pointer (some ⟨h, 0, none⟩), .int .i64 (s.b.length : Int), .int .i64 (s.b.length : Int)] (fun _ _ => trivial) (by kernel_rfl) (by decide) ?_
                          refine (callsIn_wide.2 TO.out).mono ?_
                          rintro e w' ⟨d, rfl, k1, k2, k3, k4⟩
                          rw [TE.out] at k3
                          have hz : RTo w5.drew w' h (.slice ba s.b.length bc) hv s d := ⟨k1, k2, k3, k4⟩
                          exact ⟨_, rfl, .agg (frD s.id s.b.length (finB s s.b.length) d), rfl, RRk.one hz⟩
                        | 1, hk, hR, hu0, hup =>
                          obtain rfl := Option.some.inj hk
                          obtain rfl := Option.some.inj hdi
                          have h11 : x 11 = u := hup 0 11 rfl rfl
                          obtain ⟨d, rfl, hRT⟩ := hR
                          rw [updV_self (show x 11 = _ from h11)]
                          have hrow : Row W4 w.heap.size 28 fr0 := RB.out W4 d hRT
                          refine OI_skip rfl rfl (about_none (by intro c h; cases h)) (by intro c h; cases h) _ (run_store_row 28 _ _ rfl w.heap.size (frD s.id s.b.length (finB s s.b.length) d) (by kernel_rfl) (by kernel_rfl) 28 _ hrow 8 (by kernel_rfl) rfl rfl (by obtain ⟨va, vc, hve, _, _⟩ := hRT.row.shape; rw [hve]; simp [frD, Value.oneCell'])) ⟨undef, (lgPut_none _ _).trans (put_far _ _ _ (by rw [puts_size]; exact Nat.le_of_ble_eq_true rfl)).symm, d, W4, hRT, rfl⟩
                        | _ + 2, hk, _, _, _ => simp at hk
                      case h0 => exact rfl
                      case don =>
                        rintro x9 W9 u9 hR9 hv1 hv2
                        have h13 : x9 13 = .bool true := by first | exact hv1 13 (by decide) (by decide) | exact hv2 13 (by decide) (by decide) | exact hv1 13 (by decide) | exact hv2 13 (by decide) | exact hv1 13 (by simp) (by simp)
                        obtain ⟨d, W1, hD9, rfl⟩ : ∃ (d : Value) (W1 : World), RTo w5.drew W1 h (.slice ba s.b.length bc) hv s d ∧ W9 = W1.setRow w.heap.size (frD s.id s.b.length (finB s s.b.length) d) := hR9
                        simp only [putsV, Act.put, List.setIfInBounds_toArray, List.set_cons_succ, List.set_cons_zero, Nat.reduceAdd, h13]
                        generalize x9 0 = z0, x9 1 = z1, x9 2 = z2, x9 3 = z3, x9 4 = z4, x9 5 = z5, x9 6 = z6, x9 7 = z7, x9 8 = z8, x9 9 = z9, x9 10 = z10, x9 11 = z11, x9 12 = z12
                        have RW := RB.out W1 d hD9
                        have k2 := KeepP.setRow (st := fun k => k = w.heap.size) (g := w.heap.size) rfl W1 (frD s.id s.b.length (finB s s.b.length) d)
                        have HD9 := veil hD9
                        have RQ := veil (RW.put (frD s.id s.b.length (finB s s.b.length) d))
                        have K2 := veil k2
                        have RWV := veil RW
                        clear hD9 k2 RW
                        generalize W1.setRow w.heap.size (frD s.id s.b.length (finB s s.b.length) d) = W2 at *
                        go_wp2_with fail
                        refine bodyPost_ret (result_two rfl _ _ w.heap.size 28 (frD s.id s.b.length (finB s s.b.length) d) RQ.out 8 _ _ rfl rfl Tryz.underlying28 (by kernel_rfl) rfl) rfl ?_
                        obtain ⟨t1, t2, t3⟩ := take_end HD9.out.rfr HTF.out HD9.out.row ((KeepP.of_below (st := OwnR h (.slice ba s.b.length bc) hv) HB6.out).trans HD9.out.keep) K2.out (Nat.le_refl _) ⟨_, RWV.out⟩ HOW.out.1 HOW.out.2
                        unfold RTakeP
                        rw [HSE.out]
                        exact ⟨_, rfl, t1, fun k e => Nat.le_trans HB6.out.size (HD9.out.new k e), t2, t3⟩
                  · rw [if_neg (fun q => x3 q.2.2.2)] at hse
                    have HSE := veil hse
                    have n0 : ¬ (s.fin : Int) = 0 := by omega
                    have n2 : ¬ (s.fin : Int) = 2 := by omega
                    have b0 : ((s.fin : Int) == 0) = false := by rw [beq_eq_false_iff_ne]; omega
                    have b2 : ((s.fin : Int) == 2) = false := by rw [beq_eq_false_iff_ne]; omega
                    clear hse x3 x1 x2
                    subst hbb
                    clear hk9 wl
                    go_wp2_with fail
                    go_quiet (fail)
                    have R65 := veil (R64.out.below (below_drewN (Below.refl _ wc) nq) R64.out.lt)
                    have HB5 := veil (HB4.out.trans ((below_drewN (Below.refl _ wc) nq).mono HB4.out.size))
                    generalize wc.drewN nq = w5 at *
                    have RX : Row w5 w.heap.size 28 #[.int .u8 0, .int .u64 0, .int .u64 0, .int .u64 0, .int .u64 0, .bool false, .slice none 0 0, .slice none 0 0] := R65.out
                    have rr0 : w5.cell? ⟨w.heap.size, 0, none⟩ = some (.int .u8 0) := RX.cell 0
                    have rr1 : w5.cell? ⟨w.heap.size, 1, none⟩ = some (.int .u64 0) := RX.cell 1
                    have rr2 : w5.cell? ⟨w.heap.size, 2, none⟩ = some (.int .u64 0) := RX.cell 2
                    have rr3 : w5.cell? ⟨w.heap.size, 3, none⟩ = some (.int .u64 0) := RX.cell 3
                    have rr4 : w5.cell? ⟨w.heap.size, 4, none⟩ = some (.int .u64 0) := RX.cell 4
                    have rr5 : w5.cell? ⟨w.heap.size, 5, none⟩ = some (.bool false) := RX.cell 5
                    have rr6 : w5.cell? ⟨w.heap.size, 6, none⟩ = some (.slice none 0 0) := RX.cell 6
                    have rr7 : w5.cell? ⟨w.heap.size, 7, none⟩ = some (.slice none 0 0) := RX.cell 7
                    have ff0 : w5.frozen? ⟨w.heap.size, 0, none⟩ = false := RX.frozen 0
                    have ff1 : w5.frozen? ⟨w.heap.size, 1, none⟩ = false := RX.frozen 1
                    have ff2 : w5.frozen? ⟨w.heap.size, 2, none⟩ = false := RX.frozen 2
                    have ff3 : w5.frozen? ⟨w.heap.size, 3, none⟩ = false := RX.frozen 3
                    have ff4 : w5.frozen? ⟨w.heap.size, 4, none⟩ = false := RX.frozen 4
                    have ff5 : w5.frozen? ⟨w.heap.size, 5, none⟩ = false := RX.frozen 5
                    have ff6 : w5.frozen? ⟨w.heap.size, 6, none⟩ = false := RX.frozen 6
                    have ff7 : w5.frozen? ⟨w.heap.size, 7, none⟩ = false := RX.frozen 7
                    go_wp2_with fail
                    have hbz := HB5.out.trans (keep8 (w := w5) (Nat.le_refl w.heap.size) (.int .u8 0) (.int .u64 0) (.int .u64 0) (.int .u64 0) (.int .u64 0) (.bool false) (.slice none 0 0) (.slice none 0 0))
                    refine bodyPost_ret (result_two rfl _ _ w.heap.size 28 #[.int .u8 0, .int .u64 0, .int .u64 0, .int .u64 0, .int .u64 0, .bool false, .slice none 0 0, .slice none 0 0] (row8 (d0 := .int .u8 0) (d1 := .int .u64 0) (d2 := .int .u64 0) (d3 := .int .u64 0) (d4 := .int .u64 0) (d5 := .bool false) (d6 := .slice none 0 0) (d7 := .slice none 0 0) RX) 8 _ _ rfl rfl Tryz.underlying28 (by kernel_rfl) rfl) rfl ?_
                    unfold RTakeP
                    rw [HSE.out]
                    simp only
                    exact ⟨rfl, HS.out.below hbz, hbz⟩
                · rw [if_neg (fun q => q.2.2.1 (HBF.out.1.1 hbb))] at hse
                  have HSE := veil hse
                  clear hse x1 x2 hfin
                  subst hbb
                  clear hk9 wl
                  go_wp2_with fail
                  go_quiet (fail)
                  have R65 := veil (R64.out.below (below_drewN (Below.refl _ wc) nq) R64.out.lt)
                  have HB5 := veil (HB4.out.trans ((below_drewN (Below.refl _ wc) nq).mono HB4.out.size))
                  generalize wc.drewN nq = w5 at *
                  have RX : Row w5 w.heap.size 28 #[.int .u8 0, .int .u64 0, .int .u64 0, .int .u64 0, .int .u64 0, .bool false, .slice none 0 0, .slice none 0 0] := R65.out
                  have rr0 : w5.cell? ⟨w.heap.size, 0, none⟩ = some (.int .u8 0) := RX.cell 0
                  have rr1 : w5.cell? ⟨w.heap.size, 1, none⟩ = some (.int .u64 0) := RX.cell 1
                  have rr2 : w5.cell? ⟨w.heap.size, 2, none⟩ = some (.int .u64 0) := RX.cell 2
                  have rr3 : w5.cell? ⟨w.heap.size, 3, none⟩ = some (.int .u64 0) := RX.cell 3
                  have rr4 : w5.cell? ⟨w.heap.size, 4, none⟩ = some (.int .u64 0) := RX.cell 4
                  have rr5 : w5.cell? ⟨w.heap.size, 5, none⟩ = some (.bool false) := RX.cell 5
                  have rr6 : w5.cell? ⟨w.heap.size, 6, none⟩ = some (.slice none 0 0) := RX.cell 6
                  have rr7 : w5.cell? ⟨w.heap.size, 7, none⟩ = some (.slice none 0 0) := RX.cell 7
                  have ff0 : w5.frozen? ⟨w.heap.size, 0, none⟩ = false := RX.frozen 0
                  have ff1 : w5.frozen? ⟨w.heap.size, 1, none⟩ = false := RX.frozen 1
                  have ff2 : w5.frozen? ⟨w.heap.size, 2, none⟩ = false := RX.frozen 2
                  have ff3 : w5.frozen? ⟨w.heap.size, 3, none⟩ = false := RX.frozen 3
                  have ff4 : w5.frozen? ⟨w.heap.size, 4, none⟩ = false := RX.frozen 4
                  have ff5 : w5.frozen? ⟨w.heap.size, 5, none⟩ = false := RX.frozen 5
                  have ff6 : w5.frozen? ⟨w.heap.size, 6, none⟩ = false := RX.frozen 6
                  have ff7 : w5.frozen? ⟨w.heap.size, 7, none⟩ = false := RX.frozen 7
                  go_wp2_with fail
                  have hbz := HB5.out.trans (keep8 (w := w5) (Nat.le_refl w.heap.size) (.int .u8 0) (.int .u64 0) (.int .u64 0) (.int .u64 0) (.int .u64 0) (.bool false) (.slice none 0 0) (.slice none 0 0))
                  refine bodyPost_ret (result_two rfl _ _ w.heap.size 28 #[.int .u8 0, .int .u64 0, .int .u64 0, .int .u64 0, .int .u64 0, .bool false, .slice none 0 0, .slice none 0 0] (row8 (d0 := .int .u8 0) (d1 := .int .u64 0) (d2 := .int .u64 0) (d3 := .int .u64 0) (d4 := .int .u64 0) (d5 := .bool false) (d6 := .slice none 0 0) (d7 := .slice none 0 0) RX) 8 _ _ rfl rfl Tryz.underlying28 (by kernel_rfl) rfl) rfl ?_
                  unfold RTakeP
                  rw [HSE.out]
                  simp only
                  exact ⟨rfl, HS.out.below hbz, hbz⟩
              · rw [if_neg (fun q => x2 q.2.1)] at hse
                have HSE := veil hse
                have eI : ¬ (s.fresh : Int) = (s.b.length : Int) := by omega
                have eB : ((s.fresh : Int) == (s.b.length : Int)) = false := by rw [beq_eq_false_iff_ne]; omega
                clear hse x1 x2 hfin
                clear hk9 wl
                go_wp2_with fail
                go_quiet (fail)
                have R65 := veil (R64.out.below (below_drewN (Below.refl _ wc) nq) R64.out.lt)
                have HB5 := veil (HB4.out.trans ((below_drewN (Below.refl _ wc) nq).mono HB4.out.size))
                generalize wc.drewN nq = w5 at *
                have RX : Row w5 w.heap.size 28 #[.int .u8 0, .int .u64 0, .int .u64 0, .int .u64 0, .int .u64 0, .bool false, .slice none 0 0, .slice none 0 0] := R65.out
                have rr0 : w5.cell? ⟨w.heap.size, 0, none⟩ = some (.int .u8 0) := RX.cell 0
                have rr1 : w5.cell? ⟨w.heap.size, 1, none⟩ = some (.int .u64 0) := RX.cell 1
                have rr2 : w5.cell? ⟨w.heap.size, 2, none⟩ = some (.int .u64 0) := RX.cell 2
                have rr3 : w5.cell? ⟨w.heap.size, 3, none⟩ = some (.int .u64 0) := RX.cell 3
                have rr4 : w5.cell? ⟨w.heap.size, 4, none⟩ = some (.int .u64 0) := RX.cell 4
                have rr5 : w5.cell? ⟨w.heap.size, 5, none⟩ = some (.bool false) := RX.cell 5
                have rr6 : w5.cell? ⟨w.heap.size, 6, none⟩ = some (.slice none 0 0) := RX.cell 6
                have rr7 : w5.cell? ⟨w.heap.size, 7, none⟩ = some (.slice none 0 0) := RX.cell 7
                have ff0 : w5.frozen? ⟨w.heap.size, 0, none⟩ = false := RX.frozen 0
                have ff1 : w5.frozen? ⟨w.heap.size, 1, none⟩ = false := RX.frozen 1
                have ff2 : w5.frozen? ⟨w.heap.size, 2, none⟩ = false := RX.frozen 2
                have ff3 : w5.frozen? ⟨w.heap.size, 3, none⟩ = false := RX.frozen 3
                have ff4 : w5.frozen? ⟨w.heap.size, 4, none⟩ = false := RX.frozen 4
                have ff5 : w5.frozen? ⟨w.heap.size, 5, none⟩ = false := RX.frozen 5
                have ff6 : w5.frozen? ⟨w.heap.size, 6, none⟩ = false := RX.frozen 6
                have ff7 : w5.frozen? ⟨w.heap.size, 7, none⟩ = false := RX.frozen 7
                go_wp2_with fail
                have hbz := HB5.out.trans (keep8 (w := w5) (Nat.le_refl w.heap.size) (.int .u8 0) (.int .u64 0) (.int .u64 0) (.int .u64 0) (.int .u64 0) (.bool false) (.slice none 0 0) (.slice none 0 0))
                refine bodyPost_ret (result_two rfl _ _ w.heap.size 28 #[.int .u8 0, .int .u64 0, .int .u64 0, .int .u64 0, .int .u64 0, .bool false, .slice none 0 0, .slice none 0 0] (row8 (d0 := .int .u8 0) (d1 := .int .u64 0) (d2 := .int .u64 0) (d3 := .int .u64 0) (d4 := .int .u64 0) (d5 := .bool false) (d6 := .slice none 0 0) (d7 := .slice none 0 0) RX) 8 _ _ rfl rfl Tryz.underlying28 (by kernel_rfl) rfl) rfl ?_
                unfold RTakeP
                rw [HSE.out]
                simp only
                exact ⟨rfl, HS.out.below hbz, hbz⟩
            · rw [if_neg (fun q => x1 q.1)] at hse
              rw [show s.last = false by simpa using x1] at c5
              have HSE := veil hse
              clear hse x1 hfin
              clear hk9 wl
              go_wp2_with fail
              go_quiet (fail)
              have R65 := veil (R64.out.below (below_drewN (Below.refl _ wc) nq) R64.out.lt)
              have HB5 := veil (HB4.out.trans ((below_drewN (Below.refl _ wc) nq).mono HB4.out.size))
              generalize wc.drewN nq = w5 at *
              have RX : Row w5 w.heap.size 28 #[.int .u8 0, .int .u64 0, .int .u64 0, .int .u64 0, .int .u64 0, .bool false, .slice none 0 0, .slice none 0 0] := R65.out
              have rr0 : w5.cell? ⟨w.heap.size, 0, none⟩ = some (.int .u8 0) := RX.cell 0
              have rr1 : w5.cell? ⟨w.heap.size, 1, none⟩ = some (.int .u64 0) := RX.cell 1
              have rr2 : w5.cell? ⟨w.heap.size, 2, none⟩ = some (.int .u64 0) := RX.cell 2
              have rr3 : w5.cell? ⟨w.heap.size, 3, none⟩ = some (.int .u64 0) := RX.cell 3
              have rr4 : w5.cell? ⟨w.heap.size, 4, none⟩ = some (.int .u64 0) := RX.cell 4
              have rr5 : w5.cell? ⟨w.heap.size, 5, none⟩ = some (.bool false) := RX.cell 5
              have rr6 : w5.cell? ⟨w.heap.size, 6, none⟩ = some (.slice none 0 0) := RX.cell 6
              have rr7 : w5.cell? ⟨w.heap.size, 7, none⟩ = some (.slice none 0 0) := RX.cell 7
              have ff0 : w5.frozen? ⟨w.heap.size, 0, none⟩ = false := RX.frozen 0
              have ff1 : w5.frozen? ⟨w.heap.size, 1, none⟩ = false := RX.frozen 1
              have ff2 : w5.frozen? ⟨w.heap.size, 2, none⟩ = false := RX.frozen 2
              have ff3 : w5.frozen? ⟨w.heap.size, 3, none⟩ = false := RX.frozen 3
              have ff4 : w5.frozen? ⟨w.heap.size, 4, none⟩ = false := RX.frozen 4
              have ff5 : w5.frozen? ⟨w.heap.size, 5, none⟩ = false := RX.frozen 5
              have ff6 : w5.frozen? ⟨w.heap.size, 6, none⟩ = false := RX.frozen 6
              have ff7 : w5.frozen? ⟨w.heap.size, 7, none⟩ = false := RX.frozen 7
              go_wp2_with fail
              have hbz := HB5.out.trans (keep8 (w := w5) (Nat.le_refl w.heap.size) (.int .u8 0) (.int .u64 0) (.int .u64 0) (.int .u64 0) (.int .u64 0) (.bool false) (.slice none 0 0) (.slice none 0 0))
              refine bodyPost_ret (result_two rfl _ _ w.heap.size 28 #[.int .u8 0, .int .u64 0, .int .u64 0, .int .u64 0, .int .u64 0, .bool false, .slice none 0 0, .slice none 0 0] (row8 (d0 := .int .u8 0) (d1 := .int .u64 0) (d2 := .int .u64 0) (d3 := .int .u64 0) (d4 := .int .u64 0) (d5 := .bool false) (d6 := .slice none 0 0) (d7 := .slice none 0 0) RX) 8 _ _ rfl rfl Tryz.underlying28 (by kernel_rfl) rfl) rfl ?_
              unfold RTakeP
              rw [HSE.out]
              simp only
              exact ⟨rfl, HS.out.below hbz, hbz⟩
end Sr
end Go.Proofs.YtehadfidenejdaaGreatDoor
